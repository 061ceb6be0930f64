/- Layer 18: the union of two filters of one shape. Condition: as many words as there may be. -/
import Derived.Test.YthngafgblehpoaaBloom5
namespace Go.Proofs.Ythngafgblehpoaa
open Go.RowKit
attribute [local go_sem] more_cell more_frozen more_more more_setCell more_of_drew more_of_drewN lt_more le_more past_cell past_cell2 past_frozen past_frozen2 past_setCell past_setCell2 mid_cell mid_frozen mid_setCell
attribute [local go_sem ↓] Go.wp_at_zero Go.wp_at_succ

def UnionF (w : World) (ws : List Nat) (n k : Nat) (e : Ending) (w' : World) : Prop := ∃ g c, e = .returned (.tuple #[.agg #[.slice (some ⟨g, 0, none⟩) n c, .int .i64 k], .int .i64 0]) ∧ (∃ x, w' = more w x) ∧ URow w' (some ⟨g, 0, none⟩) ws
def ClonedF (w : World) (ws : List Nat) (n : Nat) (e : Ending) (w' : World) : Prop := ∃ g c, e = .returned (.slice (some ⟨g, 0, none⟩) n c) ∧ w'.ownsRow w.heap.size 62 1 (.slice (some ⟨g, 0, none⟩) n c) n (uV ws) ∧ ∃ x, w' = more w x
theorem uclone_to (l : List Nat) (b n c : Nat) (hn : l.length = n) (h0 : 0 < n) (hl : n ≤ 1000000) (w : World) (hr : URow w (some ⟨b, 0, none⟩) l) : Calls Try.prog 93 #[.slice (some ⟨b, 0, none⟩) n c] w (ClonedF w l n) := by
  subst hn
  exact uclone_any l b 0 _ c rfl h0 hl w hr
/-- While words are joined. -/
structure UniAt (w : World) (T : TypeId) (g6 g2 c2 gb d n k : Nat) (ws vs : List Nat) (j : Nat) (wr : World) : Prop where
  own : wr.ownsRow (w.heap.size + 3) 62 1 (.slice (some ⟨g2, 0, none⟩) n c2) n (uV (unionT ws vs j))
  out : Blok wr g6 T #[.slice (some ⟨g2, 0, none⟩) n c2, .int .i64 k]
  box : Blok wr (w.heap.size + 1) T #[.slice (some ⟨gb, 0, none⟩) n d, .int .i64 k]
  res : Blok wr (w.heap.size + 2) T #[.slice none 0 0, .int .i64 0]
  grew : Grew w wr
def UniRel (w : World) (T : TypeId) (g6 g2 c2 gb d n k : Nat) (ws vs : List Nat) (i : Value) (wr : World) : Prop := ∃ j : Nat, j ≤ n ∧ i = .int .i64 j ∧ UniAt w T g6 g2 c2 gb d n k ws vs j wr
theorem own_swap {u : World} {o o' : Obj} {x : Xs} {base : Nat} {e : TypeId} {v : Value} {n : Nat} {xs : List Value} (h : (more (u.alloc o) x).ownsRow base e 1 v n xs) (hb : u.heap.size + 1 ≤ base) : (more (u.alloc o') x).ownsRow base e 1 v n xs := by
  obtain ⟨h1, h2⟩ := h
  refine ⟨h1, ?_⟩
  rcases h2 with h2 | ⟨g, cap, cur, hv, hg, hh, hr⟩
  · exact Or.inl h2
  · refine Or.inr ⟨g, cap, cur, hv, hg, ?_, hr⟩
    rw [← hh]
    simp only [more, World.alloc]
    rw [Array.getElem?_append_right (by simp; omega), Array.getElem?_append_right (by simp; omega)]
    simp
theorem own_here {w : World} {base : Nat} {e : TypeId} {n c : Nat} {g : Nat} {xs : List Value} (h : w.ownsRow base e 1 (.slice (some ⟨g, 0, none⟩) n c) n xs) : base ≤ g ∧ g < w.heap.size := ⟨own_base h g rfl, own_lt h g rfl⟩
set_option maxHeartbeats 4000000 in
set_option maxRecDepth 100000 in
theorem union_any (ws vs : List Nat) (n k ga c gb d : Nat) (hn : ws.length = n) (hm : vs.length = n) (h0 : 0 < n) (hl : n ≤ 1000000) (hw : wordsOk ws) (hv : wordsOk vs) (w : World) (ra : URow w (some ⟨ga, 0, none⟩) ws) (rb : URow w (some ⟨gb, 0, none⟩) vs) :
    Calls Try.prog 50 #[.agg #[.slice (some ⟨ga, 0, none⟩) n c, .int .i64 k], .agg #[.slice (some ⟨gb, 0, none⟩) n d, .int .i64 k]] w (UnionF w (unionW ws vs) n k) := by
  have RA := Lib.hid ra
  have RB := Lib.hid rb
  have HW := Lib.hid hw
  have HV := Lib.hid hv
  have HN := Lib.hid hn
  have HM := Lib.hid hm
  have HC : Hid (∀ W, Grew w W → Calls Try.prog 93 #[.slice (some ⟨ga, 0, none⟩) n c] W (ClonedF W ws n)) := Lib.hid fun W hW => uclone_to ws ga n c hn h0 hl W (ra.grew hW)
  clear ra rb hw hv hn hm
  have e1 : ((n : Int) != (n : Int)) = false := by simp
  have e2 : ((k : Int) != (k : Int)) = false := by simp
  go_enter Try.func50, Try.ntmps50
  go_upto_region 3 with fail
  go_cut [6] (fun p wx => ∃ g6 g2 c2, p = .pointer (some ⟨g6, 0, none⟩) ∧ g6 ≠ g2 ∧ w.heap.size + 3 ≤ g6 ∧ w.heap.size + 3 ≤ g2 ∧ UniAt w 65 g6 g2 c2 gb d n k ws vs 0 wx)
  case first =>
    have hS : ∀ W, Grew (((w.alloc (.cells #[.slice (some ⟨ga, 0, none⟩) n c, .int .i64 k] 65)).alloc (.cells #[.slice (some ⟨gb, 0, none⟩) n d, .int .i64 k] 65)).alloc (.cells #[.slice none 0 0, .int .i64 0] 65)) W → W.cell? ⟨w.heap.size, 0, none⟩ = some (.slice (some ⟨ga, 0, none⟩) n c) ∧ W.cell? ⟨w.heap.size, 1, none⟩ = some (.int .i64 k) := fun W hW => by
      have hB := (((Blok.new w 65 #[.slice (some ⟨ga, 0, none⟩) n c, .int .i64 k] _ rfl).alloc (.cells #[.slice (some ⟨gb, 0, none⟩) n d, .int .i64 k] 65)).alloc (.cells #[.slice none 0 0, .int .i64 0] 65)).grew hW
      exact ⟨hB.cell 0, hB.cell 1⟩
    have HS := Lib.hid hS
    clear hS
    go_region_held3 (fun W => W.cell? ⟨w.heap.size, 0, none⟩ = some (.slice (some ⟨ga, 0, none⟩) n c) ∧ W.cell? ⟨w.heap.size, 1, none⟩ = some (.int .i64 k)) (first | go_keep | (refine HS.out _ ?_; repeat (first | exact Grew.refl _ | apply Grew.more | apply Grew.alloc | apply Grew.drew)))
      (first | (go_at_call 93; (with_reducible refine (HC.out _ (by repeat (first | exact Grew.refl _ | apply Grew.more | apply Grew.alloc | apply Grew.drew))).mono ?_); rintro e w' ⟨g2, c2, rfl, ho, ⟨x2, rfl⟩⟩; have HO := Lib.hid ho; clear ho))
    all_goals
      go_wp2_with fail
      go_meet
    · have h1 := own_here HO.out
      have h2 : w.heap.size + 3 ≤ g2 := by have := h1.1; simpa using this
      have h3 : g2 < (more (((w.alloc (.cells #[.slice (some ⟨ga, 0, none⟩) n c, .int .i64 k] 65)).alloc (.cells #[.slice (some ⟨gb, 0, none⟩) n d, .int .i64 k] 65)).alloc (.cells #[.slice none 0 0, .int .i64 0] 65)) x2).heap.size := h1.2
      refine ⟨_, g2, c2, rfl, by omega, by rw [more_size]; simp, h2, ?_, Blok.new _ _ _ _ rfl, ?_, ?_, by (show Grew _ _; repeat (first | exact Grew.refl _ | refine Grew.alloc ?_ _ | refine Grew.drew ?_ | refine Grew.more ?_ _))⟩
      · rw [unionT_zero]
        exact own_alloc (own_le HO.out (by simp)) _
      · exact ((((Blok.new _ _ _ _ (by simp)).alloc _).more x2).alloc _)
      · exact (((Blok.new _ _ _ _ (by simp)).more x2).alloc _)
    · have h1 := own_here HO.out
      have h2 : w.heap.size + 4 ≤ g2 := by have := h1.1; simpa using this
      refine ⟨_, g2, c2, rfl, by omega, by omega, by omega, ?_, (Blok.new _ _ _ _ (by simp)).more x2, ?_, ?_, by (show Grew _ _; repeat (first | exact Grew.refl _ | refine Grew.alloc ?_ _ | refine Grew.drew ?_ | refine Grew.more ?_ _))⟩
      · rw [unionT_zero]
        exact own_le (own_swap (x := x2) HO.out (by simp)) (by simp)
      · exact ((((Blok.new _ _ _ _ (by simp)).alloc _).alloc _).more x2)
      · exact (((Blok.new _ _ _ _ (by simp)).alloc _).more x2)
  case rest =>
    obtain ⟨g6, g2, c2, rfl, hne, hg6, hg2, hu⟩ := hcut
    have HU := Lib.hid hu
    have cb0 : wc.cell? ⟨w.heap.size + 1, 0, none⟩ = some (.slice (some ⟨gb, 0, none⟩) n d) := hu.box.cell 0
    have hlb := hu.box.lt
    clear hu HC
    go_wp2
    go_loopw [33] (fun i wr => UniRel w 65 g6 g2 c2 gb d n k ws vs i wr) (fun i _ => n - (intOf i).toNat)
    case atStart => exact ⟨0, Nat.zero_le _, rfl, HU.out⟩
    case round =>
      obtain ⟨j, hj, rfl, hu⟩ := hrel
      clear HU cb0 hlb
      by_cases h : j < n
      · have hwl := HN.out
        have hvl := HM.out
        have c60 : wr.cell? ⟨g6, 0, none⟩ = some (.slice (some ⟨g2, 0, none⟩) n c2) := hu.out.cell 0
        have hl6 := hu.out.lt
        have e0 := hu.own.cellAt j (by omega)
        have e3 : (uV (unionT ws vs j))[j]? = some (.int .u64 ((ws.getD j 0 : Nat) : Int)) := by
          unfold uV
          rw [List.getElem?_map, unionT_get ws vs j j (by omega), if_neg (by omega)]
          rfl
        rw [e3] at e0
        have z0 := hu.own.frozenAt j
        have hgl := (own_here hu.own).2
        have hj2 : j < vs.length := by omega
        obtain ⟨hbl, d0⟩ := urow_cell (RB.out.grew hu.grew) hj2 rfl
        have hvj : vs[j] = vs.getD j 0 := by rw [List.getD_eq_getElem?_getD, List.getElem?_eq_getElem hj2]; rfl
        rw [hvj, Nat.zero_add] at d0
        have hx := getD_lt HW.out j
        have hy := getD_lt HV.out j
        have HS := Lib.hid (unionT_set ws vs j (by omega))
        generalize ws.getD j 0 = x at *
        generalize vs.getD j 0 = y at *
        have eor : bits .or .u64 (x : Int) (y : Int) = ((x ||| y : Nat) : Int) := u64_or_nat x y hx hy
        generalize x ||| y = v at *
        have hs := (hu.own.stored j (.int .u64 (v : Int))).1
        rw [uV_set, HS.out] at hs
        have HA : Hid (UniAt w 65 g6 g2 c2 gb d n k ws vs (j + 1) (wr.setCell ⟨g2, j, none⟩ (.int .u64 (v : Int)))) := Lib.hid ⟨hs, hu.out.far (p := ⟨g2, j, none⟩) hne _, hu.box.far (p := ⟨g2, j, none⟩) (by show w.heap.size + 1 ≠ g2; omega) _, hu.res.far (p := ⟨g2, j, none⟩) (by show w.heap.size + 2 ≠ g2; omega) _, hu.grew.setCell (a := ⟨g2, j, none⟩) (by show w.heap.size ≤ g2; omega) _⟩
        clear hu hs e3 hvj hwl hvl hj2 hx hy
        go_wp2
        refine ⟨⟨j + 1, by omega, by go_num, HA.out⟩, by simp only [intOf]; omega⟩
      · obtain rfl : j = n := by omega
        have c60 : wr.cell? ⟨g6, 0, none⟩ = some (.slice (some ⟨g2, 0, none⟩) j c2) := hu.out.cell 0
        have c61 : wr.cell? ⟨g6, 1, none⟩ = some (.int .i64 k) := hu.out.cell 1
        have hl6 := hu.out.lt
        have hl4 := hu.res.lt
        have c40 : wr.cell? ⟨w.heap.size + 2, 0, none⟩ = some (.slice none 0 0) := hu.res.cell 0
        have c41 : wr.cell? ⟨w.heap.size + 2, 1, none⟩ = some (.int .i64 0) := hu.res.cell 1
        have z40 := hu.res.thaw 0
        have z41 := hu.res.thaw 1
        have hB := (hu.res.set 0 (.slice (some ⟨g2, 0, none⟩) j c2)).set 1 (.int .i64 k)
        have r0 : ((wr.setCell ⟨w.heap.size + 2, 0, none⟩ (.slice (some ⟨g2, 0, none⟩) j c2)).setCell ⟨w.heap.size + 2, 1, none⟩ (.int .i64 k)).cell? ⟨w.heap.size + 2, 0, none⟩ = some (.slice (some ⟨g2, 0, none⟩) j c2) := hB.cell 0
        have r1 : ((wr.setCell ⟨w.heap.size + 2, 0, none⟩ (.slice (some ⟨g2, 0, none⟩) j c2)).setCell ⟨w.heap.size + 2, 1, none⟩ (.int .i64 k)).cell? ⟨w.heap.size + 2, 1, none⟩ = some (.int .i64 k) := hB.cell 1
        have HO2 := Lib.hid (own_far (own_far hu.own (p := ⟨w.heap.size + 2, 0, none⟩) (by show w.heap.size + 2 < w.heap.size + 3; omega) (.slice (some ⟨g2, 0, none⟩) j c2)) (p := ⟨w.heap.size + 2, 1, none⟩) (by show w.heap.size + 2 < w.heap.size + 3; omega) (.int .i64 k))
        have HG2 := Lib.hid ((hu.grew.setCell (a := ⟨w.heap.size + 2, 0, none⟩) (by show w.heap.size ≤ w.heap.size + 2; omega) (.slice (some ⟨g2, 0, none⟩) j c2)).setCell (a := ⟨w.heap.size + 2, 1, none⟩) (by show w.heap.size ≤ w.heap.size + 2; omega) (.int .i64 k))
        clear hu hB
        go_wp2
        refine bodyPost_ret (v := .tuple #[.agg #[.slice (some ⟨g2, 0, none⟩) j c2, .int .i64 k], .int .i64 0]) (by simp [results, Try.results50, go_sem, r0, r1]) rfl ⟨g2, c2, rfl, HG2.out, ?_⟩
        have h5 := urow_own HO2.out
        unfold unionW
        rw [HN.out]
        exact h5
end Go.Proofs.Ythngafgblehpoaa
