/- Layer 18: the document's own filters: made. No condition. -/
import Derived.Test.YthngafgblehpoaaBloom10
import Derived.Test.YthngafgblehpoaaHead
namespace Go.Proofs.Ythngafgblehpoaa
open Go.RowKit
attribute [local go_sem] more_cell more_frozen more_more more_setCell more_of_drew more_of_drewN lt_more le_more past_cell past_cell2 past_frozen past_frozen2 past_setCell past_setCell2 mid_cell mid_frozen mid_setCell
attribute [local go_sem ↓] Go.wp_at_zero Go.wp_at_succ

theorem infoB8 : (Try.prog.info? 4).map (fun i => (i.zero, i.size, i.bytes)) = some (some (.bool false), 1, 1) := by kernel_rfl
theorem mid_clamp (a : Int) (hi : Nat) (_h : 1 ≤ hi) : mid a 1 hi = (clampN a hi : Nat) := by
  unfold mid clampN
  (repeat' split) <;> omega
/-- The document's filter is left. -/
def BFilt (w : World) (l : List Bool) (k : Nat) (e : Ending) (w' : World) : Prop := ∃ g c, e = .returned (.agg #[.slice (some ⟨g, 0, none⟩) l.length c, .int .i64 k]) ∧ Grew w w' ∧ BRow w' (some ⟨g, 0, none⟩) l
theorem made_bools (n : Nat) : (madeCells #[.bool false] n).toList = bV8 (List.replicate n false) := by
  rw [toList_madeCells_one]
  simp [bV8]
set_option maxHeartbeats 1000000 in
set_option maxRecDepth 100000 in
theorem rnew_b (a b : Int) (w : World) : Calls Try.prog 42 #[.int .i64 a, .int .i64 b] w (BFilt w (List.replicate (64 * clampN a 4096) false) (clampN b 5)) := by
  have H1 : Hid (∀ W, Calls Try.prog 94 #[.int .i64 a, .int .i64 1, .int .i64 4096] W fun e w' => e = .returned (.int .i64 (clampN a 4096 : Nat)) ∧ w' = W) := Lib.hid fun W => by
    have := held_any a 1 4096 W
    rw [show (4096 : Int) = ((4096 : Nat) : Int) from rfl, mid_clamp a 4096 (by decide)] at this
    exact this
  have H2 : Hid (∀ W, Calls Try.prog 94 #[.int .i64 b, .int .i64 1, .int .i64 5] W fun e w' => e = .returned (.int .i64 (clampN b 5 : Nat)) ∧ w' = W) := Lib.hid fun W => by
    have := held_any b 1 5 W
    rw [show (5 : Int) = ((5 : Nat) : Int) from rfl, mid_clamp b 5 (by decide)] at this
    exact this
  have hle := (clamp_le a 4096 (by decide)).1
  generalize clampN a 4096 = n at *
  generalize clampN b 5 = k at *
  obtain ⟨m, hm⟩ : ∃ m : Nat, 64 * n = m := ⟨_, rfl⟩
  have hmm : m ≤ 262144 := by omega
  rw [hm]
  have e1 : wrap64 (64 * (n : Int)) = (m : Int) := by rw [IntWalk.wrap64_in _ ⟨by omega, by omega⟩]; omega
  have e2 : IntKind.i64.wrap (64 * (n : Int)) = (m : Int) := by rw [IntWalk.i64_in _ (by omega)]; omega
  have hmk := run_make_row' (P := Try.prog) 67 4 (.bool false) 1 Try.underlying67 infoB8 rfl .i64 .i64 m (by omega) (by omega)
  go_enter Try.func42, Try.ntmps42
  go_upto_region 1 with fail
  go_region_held3 (fun _ => True) (trivial)
    (first
      | (go_at_call_of 94 (Value.int .i64 a); (with_reducible refine (H1.out _).mono ?_); rintro e w' ⟨rfl, hw⟩; have hw := hw.symm; subst hw)
      | (go_at_call_of 94 (Value.int .i64 b); (with_reducible refine (H2.out _).mono ?_); rintro e w' ⟨rfl, hw⟩; have hw := hw.symm; subst hw))
  all_goals
    go_wp2
    exact bodyPost_ret (v := .agg #[.slice (some ⟨w.heap.size + 1, 0, none⟩) m m, .int .i64 k]) (by simp [results, Try.results42, go_sem]) rfl ⟨w.heap.size + 1, m, by simp, by (show Grew _ _; repeat (first | exact Grew.refl _ | refine Grew.alloc ?_ _ | refine Grew.drew ?_ | refine Grew.more ?_ _)), by
      unfold BRow
      rw [← made_bools]
      exact Row.grew (row_new _ _ _ _ (by simp)) (Grew.refl _).drew⟩
def RAddAt (w : World) (T : TypeId) (ws : List Nat) (h k g c m g2 c2 : Nat) (A : Option Addr) (i : Value) (wr : World) : Prop :=
  ∃ j : Nat, j ≤ k ∧ i = .int .i64 j ∧ wr.ownsRow (w.heap.size + 2) 4 1 (.slice (some ⟨g2, 0, none⟩) m c2) m (bV8 (B18.bitL (addN ws j h))) ∧ Blok wr w.heap.size T #[.slice (some ⟨g, 0, none⟩) m c, .int .i64 k] ∧
    Blok wr (w.heap.size + 1) T #[.slice none 0 0, .int .i64 0] ∧ Grew w wr ∧ Row wr A (numsL k (B18.placeN ws.length h))
theorem row_far {w : World} {A : Option Addr} {xs : List Value} (h : Row w A xs) {g i : Nat} (hn : ∀ a, A = some a → a.block ≠ g) (v : Value) : Row (w.setCell ⟨g, i, none⟩ v) A xs := Row.turns h ((Turns.refl w g).set i v) hn
theorem bV8_set (l : List Bool) (i : Nat) (t : Bool) : (bV8 l).set i (.bool t) = bV8 (l.set i t) := by unfold bV8; rw [List.map_set]
theorem own_more3 {w w' : World} {base : Nat} {e : TypeId} {size n : Nat} {v : Value} {xs : List Value} (h : w.ownsRow base e size v n xs) (g : Grew w w') : w'.ownsRow base e size v n xs := by
  obtain ⟨x, rfl⟩ := g
  exact own_more h x
set_option maxHeartbeats 2000000 in
set_option maxRecDepth 100000 in
theorem radd_b (ws : List Nat) (k h g c m : Nat) (hm : 64 * ws.length = m) (h0 : 0 < ws.length) (hl : ws.length ≤ 10000) (hk : k ≤ 5) (hh : h < 18446744073709551616) (w : World) (hr : BRow w (some ⟨g, 0, none⟩) (B18.bitL ws)) :
    Calls Try.prog 44 #[.agg #[.slice (some ⟨g, 0, none⟩) m c, .int .i64 k], .int .u64 h] w (BFilt w (B18.bitL (addN ws k h)) k) := by
  have HR := Lib.hid hr
  have hbl : (bV8 (B18.bitL ws)).length = m := by rw [bV8_len, B18.bitL_len, hm]
  have HBL := Lib.hid hbl
  have HP : Hid (∀ W, Calls Try.prog 97 #[.agg #[.slice (some ⟨g, 0, none⟩) m c, .int .i64 k], .int .u64 h] W (PlF W k (B18.placeN ws.length h))) := Lib.hid fun W => places_any ws.length h k _ m c hm h0 hl hk hh W
  have HPl : Hid (∀ j, B18.placeN ws.length h j < m) := Lib.hid fun j => by rw [← hm]; exact B18.place_lt ws h j h0
  have HSucc : Hid (∀ j, B18.bitL (addN ws (j + 1) h) = (B18.bitL (addN ws j h)).set (B18.placeN ws.length h j) true) := Lib.hid fun j => B18.addN_succ ws j h h0
  have HZ := Lib.hid (B18.addN_zero ws h)
  have HL : Hid ((B18.bitL (addN ws k h)).length = m) := Lib.hid (by rw [B18.bitL_len, B18.addN_len', hm])
  have hml : m ≤ 640000 := by omega
  clear hr hbl hm
  go_enter Try.func44, Try.ntmps44
  go_wp2_with (first
    | (at_builtin; refine wpList_appB rfl (.tmp 8) (.tmp 10) 67 4 1 rfl (w.heap.size + 2) (.bool false) 1 Try.underlying67 infoB8 rfl (by decide) (by decide) _ 0 [] rfl (own_empty _ _ _ _ _ (by simp) (by omega)) (some ⟨g, 0, none⟩) m c (bV8 (B18.bitL ws)) rfl (by rw [HBL.out, Nat.mul_one]) (Row.grew HR.out (by (show Grew _ _; repeat (first | exact Grew.refl _ | refine Grew.alloc ?_ _ | refine Grew.drew ?_ | refine Grew.more ?_ _)))) (bV8_one _) (by omega) (by simp) ?_))
  intro A2 c2 w2 ho2 hgb2
  have hm0 : 0 < m := by have := HPl.out 0; omega
  obtain ⟨g2, cap, hv, hg2a, hg2b⟩ := World.ownsRow.form ho2 hm0
  injection hv with hv1 hv2 hv3
  subst hv1 hv3
  have HO2 : Hid (w2.ownsRow (w.heap.size + 2) 4 1 (.slice (some ⟨g2, 0, none⟩) m c2) m (bV8 (B18.bitL ws))) := Lib.hid ho2
  have hrow : ∀ i, (Value.slice (some ⟨w.heap.size + 1 + 1, 0, none⟩) 0 0).ownBlock = some i → w.heap.size + 2 ≤ i := fun i hi => by
    simp [Value.ownBlock] at hi
    omega
  have hB0 : Blok w2 w.heap.size 69 #[.slice (some ⟨g, 0, none⟩) m c, .int .i64 k] := (((Blok.new _ _ _ _ rfl).alloc _).alloc _).grown hgb2 (fun e => by have := hrow _ e; omega)
  have hB1 : Blok w2 (w.heap.size + 1) 69 #[.slice none 0 0, .int .i64 0] := ((Blok.new _ _ _ _ (by simp)).alloc _).grown hgb2 (fun e => by have := hrow _ e; omega)
  have hG2 : Grew w w2 := Grew.grown (by (show Grew _ _; repeat (first | exact Grew.refl _ | refine Grew.alloc ?_ _ | refine Grew.drew ?_ | refine Grew.more ?_ _))) hgb2 (fun i hi => by have := hrow i hi; omega)
  have HB0 := Lib.hid hB0
  have HB1 := Lib.hid hB1
  have HG2 := Lib.hid hG2
  have d0 := hB0.cell 0
  have d1 := hB0.cell 1
  have hlt := hB0.lt
  simp at d0 d1
  clear ho2 hgb2 hB0 hB1 hG2 hv2 hm0 HBL
  go_wp2_with fail
  refine (HP.out _).mono ?_
  rintro e w3 ⟨A3, c3, rfl, hg3, hr3, hf3⟩
  have HG3 := Lib.hid (HG2.out.trans hg3)
  have HB0 := Lib.hid (HB0.out.grew hg3)
  have HB1 := Lib.hid (HB1.out.grew hg3)
  have HO3 := Lib.hid (own_more3 HO2.out hg3)
  have hne : ∀ a, A3 = some a → a.block ≠ g2 := fun a ha => by have := hf3 a ha; omega
  have HNe := Lib.hid hne
  have HR3 := Lib.hid hr3
  have hg22 : w.heap.size + 2 ≤ g2 := hg2a
  clear hg3 hr3 hf3 hne d0 d1 hlt HP HG2 HO2
  go_wp2
  go_loopw [7] (fun i wr => RAddAt w 69 ws h k g c m g2 c2 A3 i wr) (fun i _ => k - (intOf i).toNat)
  case atStart => exact ⟨0, Nat.zero_le _, rfl, by rw [HZ.out]; exact HO3.out, HB0.out, HB1.out, HG3.out, HR3.out⟩
  case round =>
    clear HO3 HB0 HB1 HG3 HR3
    obtain ⟨j, hj, rfl, ho, hb0, hb1, hg, hr⟩ := hrel
    have HO := Lib.hid ho
    have HB0 := Lib.hid hb0
    have HB1 := Lib.hid hb1
    have HG := Lib.hid hg
    have HRr := Lib.hid hr
    clear ho hb0 hb1 hg hr
    by_cases hjk : j < k
    · obtain ⟨pb, po, rfl, hpb, p0⟩ := HRr.out.nums hjk
      have hpm := HPl.out j
      have hs := (HO.out.stored (B18.placeN ws.length h j) (.bool true)).1
      rw [bV8_set, ← HSucc.out j] at hs
      have HOn := Lib.hid hs
      have HB0n := Lib.hid (HB0.out.far (p := ⟨g2, B18.placeN ws.length h j, none⟩) (by show w.heap.size ≠ g2; omega) (.bool true))
      have HB1n := Lib.hid (HB1.out.far (p := ⟨g2, B18.placeN ws.length h j, none⟩) (by show w.heap.size + 1 ≠ g2; omega) (.bool true))
      have HGn := Lib.hid (HG.out.setCell (a := ⟨g2, B18.placeN ws.length h j, none⟩) (by show w.heap.size ≤ g2; omega) (.bool true))
      have HRn := Lib.hid (row_far (i := B18.placeN ws.length h j) HRr.out HNe.out (.bool true))
      have z0 := HO.out.frozenAt (B18.placeN ws.length h j)
      have hq : ∃ v, wr.cell? ⟨g2, B18.placeN ws.length h j, none⟩ = some v := by
        have hle : (bV8 (B18.bitL (addN ws j h))).length = m := by rw [HO.out.1, Nat.mul_one]
        exact ⟨_, (HO.out.cellAt (B18.placeN ws.length h j) (by omega)).trans (List.getElem?_eq_getElem (by omega))⟩
      obtain ⟨q, q0⟩ := hq
      have hgl := (World.ownsRow.lt HO.out g2 rfl).2
      clear hs HO HB0 HB1 HG HRr HSucc HPl
      generalize B18.placeN ws.length h j = p at *
      go_wp2
      exact ⟨⟨j + 1, by omega, by go_num, HOn.out, HB0n.out, HB1n.out, HGn.out, HRn.out⟩, by simp only [intOf]; omega⟩
    · obtain rfl : j = k := by omega
      have d00 := HB0.out.cell 0
      have d01 := HB0.out.cell 1
      have z00 := HB0.out.thaw 0
      have d10 := HB1.out.cell 0
      have d11 := HB1.out.cell 1
      have z10 := HB1.out.thaw 0
      have z11 := HB1.out.thaw 1
      have hlt0 := HB0.out.lt
      have hlt1 := HB1.out.lt
      simp at d00 d01 d10 d11
      have hBf := ((HB1.out.far (p := ⟨w.heap.size, 0, none⟩) (by show w.heap.size + 1 ≠ w.heap.size; omega) (.slice (some ⟨g2, 0, none⟩) m c2)).set 0 (.slice (some ⟨g2, 0, none⟩) m c2)).set 1 (.int .i64 j)
      have hOf := ownsRow_setCell_below (ownsRow_setCell_below (ownsRow_setCell_below HO.out (a := ⟨w.heap.size, 0, none⟩) (by show w.heap.size < w.heap.size + 2; omega) (.slice (some ⟨g2, 0, none⟩) m c2)) (a := ⟨w.heap.size + 1, 0, none⟩) (by show w.heap.size + 1 < w.heap.size + 2; omega) (.slice (some ⟨g2, 0, none⟩) m c2)) (a := ⟨w.heap.size + 1, 1, none⟩) (by show w.heap.size + 1 < w.heap.size + 2; omega) (.int .i64 j)
      have hGf := ((HG.out.setCell (a := ⟨w.heap.size, 0, none⟩) (Nat.le_refl _) (.slice (some ⟨g2, 0, none⟩) m c2)).setCell (a := ⟨w.heap.size + 1, 0, none⟩) (by show w.heap.size ≤ w.heap.size + 1; omega) (.slice (some ⟨g2, 0, none⟩) m c2)).setCell (a := ⟨w.heap.size + 1, 1, none⟩) (by show w.heap.size ≤ w.heap.size + 1; omega) (.int .i64 j)
      have HOf := Lib.hid hOf
      have HGf := Lib.hid hGf
      have HBf := Lib.hid hBf
      clear hBf hOf hGf HO HG HB0 HB1 HRr HSucc HPl HZ
      go_wp2
      clear d00 d01 d10 d11 z00 z10 z11 hlt0 hlt1
      generalize (((wr.setCell ⟨w.heap.size, 0, none⟩ (.slice (some ⟨g2, 0, none⟩) m c2)).setCell ⟨w.heap.size + 1, 0, none⟩ (.slice (some ⟨g2, 0, none⟩) m c2)).setCell ⟨w.heap.size + 1, 1, none⟩ (.int .i64 j)) = Wf at *
      have r0 := HBf.out.cell 0
      have r1 := HBf.out.cell 1
      simp at r0 r1
      refine bodyPost_ret (v := .agg #[.slice (some ⟨g2, 0, none⟩) m c2, .int .i64 j]) (by simp [results, Try.results44, go_sem, r0, r1]) rfl ⟨g2, c2, by rw [HL.out], HGf.out, ?_⟩
      obtain ⟨A', c', h1, h2⟩ := own_row HOf.out
      injection h1 with h1 _ _
      subst h1
      exact h2
end Go.Proofs.Ythngafgblehpoaa
