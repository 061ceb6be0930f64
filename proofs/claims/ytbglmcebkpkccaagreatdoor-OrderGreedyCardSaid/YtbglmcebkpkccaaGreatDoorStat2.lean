/- Layer 27: small words on what is said, by the document. Condition: what lies in memory that is there. -/
import Derived.Test.YtbglmcebkpkccaaGreatDoorStat
import Derived.Test.YtbglmcebkpkccaaGreatDoorSame
import Derived.Test.YtbglmcebkpkccaaGreatDoorTabKit
import Derived.Test.YtbglmcebkpkccaaGreatDoorRowEq
namespace Go.Proofs.YtbglmcebkpkccaaGreatDoor
open Go.RowKit
attribute [local go_sem] more_cell more_frozen more_more more_setCell more_of_drew more_of_drewN lt_more le_more past_cell past_cell2 past_frozen past_frozen2 past_setCell past_setCell2 mid_cell mid_frozen mid_setCell
attribute [local go_sem ↓] Go.wp_at_zero Go.wp_at_succ

theorem rnear_any (n high : Int) (w : World) : Gives Tryz.prog 109 #[.int .i64 n, .int .i64 high] w (.int .i64 (nearI n high)) := by
  unfold Gives
  have hc : n < 0 ∨ (0 ≤ n ∧ high < n) ∨ (0 ≤ n ∧ n ≤ high) := by omega
  rcases hc with h | ⟨h1, h2⟩ | ⟨h1, h2⟩
  · rw [show nearI n high = 0 from if_pos h]
    go_enter Tryz.func109, Tryz.ntmps109
    go_wp2
    go_ret
    exact ⟨rfl, by (show Grew _ _; repeat (first | exact Grew.refl _ | refine Grew.alloc ?_ _ | refine Grew.drew ?_ | refine Grew.more ?_ _))⟩
  · rw [show nearI n high = high by unfold nearI; rw [if_neg (by omega), if_pos h2]]
    go_enter Tryz.func109, Tryz.ntmps109
    go_wp2
    go_ret
    exact ⟨rfl, by (show Grew _ _; repeat (first | exact Grew.refl _ | refine Grew.alloc ?_ _ | refine Grew.drew ?_ | refine Grew.more ?_ _))⟩
  · rw [show nearI n high = n by unfold nearI; rw [if_neg (by omega), if_neg (by omega)]]
    go_enter Tryz.func109, Tryz.ntmps109
    go_wp2
    go_ret
    exact ⟨rfl, by (show Grew _ _; repeat (first | exact Grew.refl _ | refine Grew.alloc ?_ _ | refine Grew.drew ?_ | refine Grew.more ?_ _))⟩
theorem cst_cases (x y : Cst) : ((x.n == y.n) = false) ∨ (x.n = y.n ∧ (x.u == y.u) = false) ∨ (x.n = y.n ∧ x.u = y.u) := by
  by_cases h1 : x.n = y.n
  · by_cases h2 : x.u = y.u
    · exact Or.inr (Or.inr ⟨h1, h2⟩)
    · exact Or.inr (Or.inl ⟨h1, by simpa using h2⟩)
  · exact Or.inl (by simpa using h1)
def EqCs (w : World) (l m : List Cst) (i : Value) (wr : World) : Prop := ∃ j : Nat, j ≤ l.length ∧ i = .int .i64 j ∧ Grew w wr ∧ l.take j = m.take j
theorem boxS {w : World} {g : Nat} {v0 v1 : Value} (h : Blok w g 58 #[v0, v1]) : g < w.heap.size ∧ w.cell? ⟨g, 0, none⟩ = some v0 ∧ w.cell? ⟨g, 1, none⟩ = some v1 := ⟨h.lt, h.cell 0, h.cell 1⟩
def goodS (s : Sst) : Prop := s.cols.length ≤ 30 ∧ ∀ c ∈ s.cols, c.m.length ≤ 60
def MuchSAt (w : World) (l : List Cst) (i : Value) (wr : World) : Prop := ∃ j : Nat, j ≤ l.length ∧ j ≤ 40 ∧ i = .int .i64 j ∧ Grew w wr ∧ ∀ c ∈ l.take j, c.m.length ≤ 60
set_option maxHeartbeats 4000000 in
set_option maxRecDepth 100000 in
theorem rmuchS_any (r : Int) (l : List Cst) (A : Option Addr) (k : Nat) (hl : l.length ≤ 1000000000000000) (w : World) (ra : CstsR (PRow w) A l) :
    Calls Tryz.prog 30 #[.agg #[.int .i64 r, .slice A l.length k]] w fun e w' => ∃ t : Bool, e = .returned (.bool t) ∧ Grew w w' ∧ (t = false → l.length ≤ 30 ∧ ∀ c ∈ l, c.m.length ≤ 60) := by
  have RA := Lib.hid ra
  clear ra
  obtain ⟨W0, hW0⟩ : ∃ W0, W0 = w.alloc (.cells #[.int .i64 r, .slice A l.length k] 58) := ⟨_, rfl⟩
  have HG0 : Hid (Grew w W0) := Lib.hid (by rw [hW0]; exact (Grew.refl w).alloc _)
  have HB1 : Hid (Blok W0 w.heap.size 58 #[.int .i64 r, .slice A l.length k]) := Lib.hid (by rw [hW0]; exact Blok.new _ _ _ _ rfl)
  go_enter Tryz.func30, Tryz.ntmps30
  go_upto_region 1 with fail
  rw [← hW0]
  clear hW0
  generalize w.heap.size = g1 at *
  go_wp2
  go_loopw [3] (fun i wr => MuchSAt W0 l i wr) (fun i _ => l.length - (intOf i).toNat)
  case atStart => exact ⟨0, Nat.zero_le _, by omega, rfl, by (show Grew _ _; repeat (first | exact Grew.refl _ | refine Grew.alloc ?_ _ | refine Grew.drew ?_ | refine Grew.more ?_ _)), by simp⟩
  case round =>
    obtain ⟨i, hi, h40, rfl, hg, hk⟩ := hrel
    have HG := Lib.hid hg
    have HK := Lib.hid hk
    obtain ⟨x1, x2, x3⟩ := boxS (HB1.out.grew hg)
    clear hg hk
    by_cases h : i < l.length
    · by_cases h4 : i < 40
      · obtain ⟨b, o, C, c, rfl, hb, c0, c1, c2, hc, rC⟩ := cstsR_at (RA.out.grew (HG0.out.trans HG.out)) h
        have HN : Hid (l[i].m.length ≤ 60 → ∀ c ∈ l.take (i + 1), c.m.length ≤ 60) := Lib.hid fun q c hc => by
          rw [List.take_succ_eq_append_getElem h] at hc
          rcases List.mem_append.1 hc with hc | hc
          · exact HK.out c hc
          · rw [List.mem_singleton.1 hc]; exact q
        clear HK hc rC
        have h4' : (i : Int) < 40 := by omega
        generalize l[i] = x at *
        by_cases h60 : 60 < x.m.length
        · have h60' : (60 : Int) < x.m.length := by omega
          clear HN
          go_wp2
          go_ret
          exact ⟨true, rfl, HG0.out.trans HG.out, by simp⟩
        · have h60' : (x.m.length : Int) ≤ 60 := by omega
          have HN1 := Lib.hid (HN.out (by omega))
          clear HN
          go_wp2
          exact ⟨⟨i + 1, by omega, by omega, by go_num, HG.out, HN1.out⟩, by simp only [intOf]; omega⟩
      · obtain rfl : i = 40 := by omega
        have h30 : (30 : Int) < l.length := by omega
        clear HK
        go_wp2
        go_ret
        exact ⟨true, rfl, HG0.out.trans HG.out, by simp⟩
    · obtain rfl : i = l.length := by omega
      rw [List.take_length] at HK
      by_cases h30 : 30 < l.length
      · have h30' : (30 : Int) < l.length := by omega
        have hd : decide ((30 : Int) < l.length) = true := decide_eq_true h30'
        clear HK
        go_wp2
        go_ret
        exact ⟨true, rfl, HG0.out.trans HG.out, by simp⟩
      · have h30' : (l.length : Int) ≤ 30 := by omega
        have hd : decide ((30 : Int) < l.length) = false := decide_eq_false (by omega)
        have HE : Hid (l.length ≤ 30 ∧ ∀ c ∈ l, c.m.length ≤ 60) := Lib.hid ⟨by omega, HK.out⟩
        clear HK
        go_wp2
        go_ret
        exact ⟨false, rfl, HG0.out.trans HG.out, fun _ => HE.out⟩
end Go.Proofs.YtbglmcebkpkccaaGreatDoor
