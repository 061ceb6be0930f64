/- Layers 27, 29, 39: what is more than is asked. Condition: rows that lie in memory that is there. -/
import Derived.Test.YtcokhgomibimcaaAsk7
import Derived.Test.YtcokhgomibimcaaAsk8
namespace Go.Proofs.Ytcokhgomibimcaa
open Go.RowKit
attribute [local go_sem] more_cell more_frozen more_more more_setCell more_of_drew more_of_drewN lt_more le_more past_cell past_cell2 past_frozen past_frozen2 past_setCell past_setCell2 mid_cell mid_frozen mid_setCell
attribute [local go_sem ↓] Go.wp_at_zero Go.wp_at_succ

def goodS (cols : List ColS) : Prop := cols.length ≤ 30 ∧ ∀ c ∈ cols, c.m.length ≤ 60
def goodT (ts : List StatS) : Prop := ts.length ≤ 16 ∧ ∀ s ∈ ts, goodS s.cols
def goodA (a : AskS) : Prop := goodT a.stats ∧ a.picks.length ≤ 100
/-- A truth is told; if it is false, something holds. -/
def MuchR (w : World) (P : Prop) (e : Ending) (w' : World) : Prop := ∃ t : Bool, e = .returned (.bool t) ∧ Grew w w' ∧ (t = false → P)
theorem muchR_true {w w' : World} (P : Prop) (h : Grew w w') : MuchR w P (.returned (.bool true)) w' := ⟨true, rfl, h, fun h => by cases h⟩
theorem muchR_false {w w' : World} {P : Prop} (h : Grew w w') (hp : P) : MuchR w P (.returned (.bool false)) w' := ⟨false, rfl, h, fun _ => hp⟩
theorem muchR_dec {w w' : World} {P c : Prop} [Decidable c] (h : Grew w w') (hp : ¬ c → P) : MuchR w P (.returned (.bool (decide c))) w' := ⟨_, rfl, h, fun h => hp (of_decide_eq_false h)⟩
theorem take_all {α : Type} {P : α → Prop} {l : List α} {j : Nat} (h : ∀ x ∈ l.take j, P x) (hj : j < l.length) (hx : P l[j]) : ∀ x ∈ l.take (j + 1), P x := by
  intro x hm
  rw [List.take_succ_eq_append_getElem hj] at hm
  rcases List.mem_append.1 hm with h1 | h1
  · exact h x h1
  · rw [List.mem_singleton.1 h1]; exact hx
def Much27At (w : World) (cs : Array Value) (cols : List ColS) (i : Value) (wr : World) : Prop :=
  ∃ j : Nat, j ≤ cols.length ∧ i = .int .i64 j ∧ Grew w wr ∧ Blok wr w.heap.size 97 cs ∧ ∀ c ∈ cols.take j, c.m.length ≤ 60
set_option maxHeartbeats 1000000 in
theorem much27_any (rows : Int) (cols : List ColS) (B : Option Addr) (k : Nat) (w : World) (h : ColsR (PRow w) B cols) :
    Calls Try.prog 73 #[.agg #[.int .i64 rows, .slice B cols.length k]] w (MuchR w (goodS cols)) := by
  have HC := Lib.hid h
  clear h
  go_enter Try.func73, Try.ntmps73
  go_wp2
  go_loopw [3] (fun i wr => Much27At w #[.int .i64 rows, .slice B cols.length k] cols i wr) (fun i _ => cols.length - (intOf i).toNat)
  case atStart => exact ⟨0, Nat.zero_le _, rfl, by (show Grew _ _; repeat (first | exact Grew.refl _ | refine Grew.alloc ?_ _ | refine Grew.drew ?_ | refine Grew.more ?_ _)), Blok.new _ _ _ _ rfl, by simp⟩
  case round =>
    obtain ⟨j, hj, rfl, hg, hb, ha⟩ := hrel
    have HG := Lib.hid hg
    have HB := Lib.hid hb
    have HA := Lib.hid ha
    have c1 := hb.cell 1
    have hlt := hb.lt
    simp at c1
    clear hg hb ha
    by_cases h : j < cols.length
    · by_cases h40 : j < 40
      · have h40' : (j : Int) < 40 := by omega
        obtain ⟨b, o, M, mk, rfl, hb, _, _, _, q2⟩ := colsR_at HC.out h
        obtain ⟨bw, q2w⟩ : b < wr.heap.size ∧ wr.cell? ⟨b, o + j * 3 + 2, none⟩ = some (.slice M cols[j].m.length mk) := ⟨Nat.lt_of_lt_of_le hb HG.out.size, by
          obtain ⟨x, hx⟩ := HG.out
          rw [hx, more_cell _ _ _ hb]
          exact q2⟩
        have HN := Lib.hid (fun hx => take_all HA.out h hx)
        clear q2 hb
        generalize cols[j].m.length = n at *
        by_cases hn : 60 < n
        · have hn' : (60 : Int) < n := by omega
          go_wp2
          go_ret
          exact muchR_true _ HG.out
        · have hn' : ¬ (60 : Int) < n := by omega
          have hn2 : (n : Int) ≤ 60 := by omega
          go_wp2
          exact ⟨⟨j + 1, by omega, by go_num, HG.out, HB.out, HN.out (by omega)⟩, by simp only [intOf]; omega⟩
      · have h40' : (40 : Int) ≤ j := by omega
        have h30 : (30 : Int) < cols.length := by omega
        go_wp2
        go_ret
        exact muchR_true _ HG.out
    · obtain rfl : j = cols.length := by omega
      go_wp2
      go_ret
      refine muchR_dec (c := (30 : Int) < cols.length) HG.out (fun hc => ⟨by omega, ?_⟩)
      have := HA.out
      rwa [List.take_length] at this
def Much29At (w : World) (ts : List StatS) (i : Value) (wr : World) : Prop :=
  ∃ j : Nat, j ≤ ts.length ∧ i = .int .i64 j ∧ Grew w wr ∧ ∀ c ∈ ts.take j, goodS c.cols
set_option maxHeartbeats 1000000 in
theorem much29_any (ts : List StatS) (B : Option Addr) (k : Nat) (w : World) (h : StatsR (PRow w) B ts) :
    Calls Try.prog 102 #[.slice B ts.length k] w (MuchR w (goodT ts)) := by
  have HC := Lib.hid h
  clear h
  go_enter Try.func102, Try.ntmps102
  go_wp2
  go_loopw [3] (fun i wr => Much29At w ts i wr) (fun i _ => ts.length - (intOf i).toNat)
  case atStart => exact ⟨0, Nat.zero_le _, rfl, by (show Grew _ _; repeat (first | exact Grew.refl _ | refine Grew.alloc ?_ _ | refine Grew.drew ?_ | refine Grew.more ?_ _)), by simp⟩
  case round =>
    obtain ⟨j, hj, rfl, hg, ha⟩ := hrel
    have HG := Lib.hid hg
    have HA := Lib.hid ha
    clear hg ha
    by_cases h : j < ts.length
    · by_cases h20 : j < 20
      · have h20' : (j : Int) < 20 := by omega
        obtain ⟨b, o, M, mk, rfl, hb, hcr, q0, q1⟩ := statsR_at HC.out h
        have bw : b < wr.heap.size := Nat.lt_of_lt_of_le hb HG.out.size
        have q0w : wr.cell? ⟨b, o + j * 2, none⟩ = some (.int .i64 ts[j].rows) := by
          obtain ⟨x, hx⟩ := HG.out
          rw [hx, more_cell _ _ _ hb]
          exact q0
        have q1w : wr.cell? ⟨b, o + j * 2 + 1, none⟩ = some (.slice M ts[j].cols.length mk) := by
          obtain ⟨x, hx⟩ := HG.out
          rw [hx, more_cell _ _ _ hb]
          exact q1
        have HCR := Lib.hid hcr
        have HN := Lib.hid (fun hx => take_all (P := fun c : StatS => goodS c.cols) HA.out h hx)
        clear q0 q1 hb hcr
        generalize ts[j] = x at *
        obtain ⟨rows, cols⟩ := x
        simp only at *
        have HM : Hid (∀ W, Grew w W → Calls Try.prog 73 #[.agg #[.int .i64 rows, .slice M cols.length mk]] W (MuchR W (goodS cols))) := Lib.hid fun W hW => much27_any rows cols M mk W (HCR.out.grew hW)
        go_upto_region 5 with (go_at_call 73; refine (HM.out _ HG.out).mono ?_; rintro e w2 ⟨t, rfl, hg2, ht⟩; have HG2 := Lib.hid (HG.out.trans hg2); have HT := Lib.hid ht; clear hg2 ht)
        · have ht : t = true := by assumption
          subst ht
          go_wp2
          go_ret
          exact muchR_true _ HG2.out
        · have ht : t = false := by assumption
          exact ⟨⟨j + 1, by omega, by go_num, HG2.out, HN.out (HT.out ht)⟩, by simp only [intOf]; omega⟩
      · have h20' : (20 : Int) ≤ j := by omega
        have h30 : (16 : Int) < ts.length := by omega
        go_wp2
        go_ret
        exact muchR_true _ HG.out
    · obtain rfl : j = ts.length := by omega
      go_wp2
      go_ret
      refine muchR_dec (c := (16 : Int) < ts.length) HG.out (fun hc => ⟨by omega, ?_⟩)
      have := HA.out
      rwa [List.take_length] at this
set_option maxHeartbeats 1000000 in
theorem much39_any (a : AskS) (Q P : Option Addr) (jq kp : Nat) (w : World) (h1 : StatsR (PRow w) Q a.stats) :
    Calls Try.prog 25 #[askV a Q P jq kp] w (MuchR w (goodA a)) := by
  have HM : Hid (∀ W, Grew w W → Calls Try.prog 102 #[.slice Q a.stats.length jq] W (MuchR W (goodT a.stats))) := Lib.hid fun W hW => much29_any a.stats Q jq W (h1.grew hW)
  clear h1
  unfold askV goodA
  obtain ⟨ts, f, o, pk⟩ := a
  obtain ⟨o0, o1, o2, o3, o4, o5⟩ := o
  simp only at *
  have b1 := Blok.new w 39 #[.slice Q ts.length jq, .bool f, .int .i64 o0, .int .i64 o1, .int .i64 o2, .int .i64 o3, .int .i64 o4, .int .i64 o5, .slice P pk.length kp] _ rfl
  have HB1 := Lib.hid b1
  clear b1
  go_enter Try.func25, Try.ntmps25
  go_wp2_with fail
  refine (HM.out _ ((Grew.refl w).alloc _)).mono ?_
  rintro e w2 ⟨t, rfl, hg2, ht⟩
  have HG2 : Hid (Grew w w2) := Lib.hid (((Grew.refl w).alloc _).trans hg2)
  have HT := Lib.hid ht
  have d8 := (HB1.out.grew hg2).cell 8
  have hlt := (HB1.out.grew hg2).lt
  simp at d8
  clear hg2 ht
  cases t
  · go_wp2
    go_ret
    exact muchR_dec (c := (100 : Int) < pk.length) HG2.out (fun hc => ⟨HT.out (by first | rfl | trivial), by omega⟩)
  · go_wp2
    go_ret
    exact muchR_true _ HG2.out
end Go.Proofs.Ytcokhgomibimcaa
