/- Some values of a row: rows.Pick, and the document's. Condition: no more than a million places. -/
import Derived.Test.YtklhledcnijchaaDoorNulls
import Derived.Deep.DeepCutAuto
namespace Go.Proofs.YtklhledcnijchaaDoor
open Go.RowKit
attribute [local go_sem] more_cell more_frozen more_more more_setCell more_of_drew more_of_drewN lt_more le_more past_cell past_cell2 past_frozen past_frozen2 past_setCell past_setCell2 mid_cell mid_frozen mid_setCell
attribute [local go_sem ↓] Go.wp_at_zero Go.wp_at_succ

/-- The value at a place, null where there is none. -/
def pickV (r : List Vl) (p : Int) : Vl := if 0 ≤ p ∧ p < r.length then r.getD p.toNat nulV else nulV
def pickL (r : List Vl) (ps : List Int) : List Vl := ps.map (pickV r)
theorem pickL_len (r : List Vl) (ps : List Int) : (pickL r ps).length = ps.length := by simp [pickL]
theorem pickL_snoc {r : List Vl} {ps : List Int} {j : Nat} (h : j < ps.length) : pickL r (ps.take (j + 1)) = pickL r (ps.take j) ++ [pickV r ps[j]] := by
  unfold pickL
  rw [List.take_succ_eq_append_getElem h, List.map_append]
  rfl
theorem pickV_in {r : List Vl} {p : Nat} (h : p < r.length) : pickV r p = r[p] := by
  unfold pickV
  rw [if_pos ⟨by omega, by omega⟩, Int.toNat_natCast, List.getD_eq_getElem?_getD, List.getElem?_eq_getElem h]
  rfl
theorem pickV_out {r : List Vl} {p : Int} (h : ¬ (0 ≤ p ∧ p < r.length)) : pickV r p = nulV := if_neg h
theorem own_thus {w w' : World} {base : Nat} {e : TypeId} {size n : Nat} {v : Value} {xs : List Value} (h : w.ownsRow base e size v n xs) (g : Grew w w') : w'.ownsRow base e size v n xs := by
  obtain ⟨x, rfl⟩ := g
  exact own_more h x
def PkAt (w : World) (r : List Vl) (ps : List Int) (v i : Value) (wr : World) : Prop :=
  ∃ (j : Nat) (A : Option Addr) (c : Nat), j ≤ ps.length ∧ i = .int .i64 j ∧ v = .slice A j c ∧ Grew w wr ∧ wr.ownsRow w.heap.size 31 3 (.slice A j c) j (flatV (pickL r (ps.take j)))
set_option maxHeartbeats 4000000 in
set_option maxRecDepth 100000 in
theorem pick_any (r : List Vl) (ps : List Int) (hp : ps.length ≤ 1000000) (A B : Option Addr) (k c : Nat) (w : World) (ra : VlsR (PRow w) A r) (rb : Row w B (iV ps)) :
    Calls Tryd.prog 20 #[.slice A r.length k, .slice B ps.length c] w (ValsF w (pickL r ps)) := by
  have RA := Lib.hid ra
  have RB := Lib.hid rb
  unfold ValsF
  rw [pickL_len]
  have HN := Lib.hid (nulls_any 0 0 0 (by decide) (by decide) w)
  clear ra rb
  go_enter Tryd.func20, Tryd.ntmps20
  go_wp2_with fail
  refine HN.out.mono ?_
  rintro e w1 ⟨A1, c1, rfl, hg1, ho1⟩
  have HG1 := Lib.hid hg1
  have HO1 := Lib.hid ho1
  clear hg1 ho1 HN
  rw [List.length_replicate] at HO1 ⊢
  go_wp2
  go_loopw [5, 12] (fun v i wr => PkAt w r ps v i wr) (fun _ i _ => ps.length - (intOf i).toNat)
  case atStart => exact ⟨0, A1, c1, Nat.zero_le _, rfl, rfl, HG1.out, HO1.out⟩
  case round =>
    obtain ⟨j, A2, c2, hj, rfl, rfl, hg, ho⟩ := hrel
    have HG := Lib.hid hg
    have HO := Lib.hid ho
    clear hg ho HG1 HO1
    by_cases h : j < ps.length
    · have hji : (j : Int) < (ps.length : Int) := by omega
      obtain ⟨pb, po, rfl, hpb, hpc'⟩ := (RB.out.grew HG.out).at_ (k := j) (by simp [iV, h])
      have hpc : wr.cell? ⟨pb, po + j, none⟩ = some (.int .i64 ps[j]) := by rw [hpc']; simp [iV]
      have HSn := Lib.hid (pickL_snoc (r := r) h)
      clear hpc'
      generalize ps[j] = p at *
      go_upto_region 6 with (go_at_call 55; (with_reducible refine (null_any _).grows.mono ?_); rintro e w2 ⟨rfl, hg2⟩; have HG2 := Lib.hid hg2; clear hg2)
      have HF : Hid (∀ (x : Vl), pickV r p = x → ∀ A3 c3 w3, w3.ownsRow w.heap.size 31 3 (.slice A3 (j + 1) c3) (j + 1) (flatV (pickL r (ps.take j)) ++ [.int .i64 x.k, .int .i64 x.i, .string x.s]) → Grew w w3 → PkAt w r ps (.slice A3 (j + 1) c3) (.int .i64 ((j : Int) + 1)) w3) := Lib.hid fun x hx A3 c3 w3 h1 h2 => ⟨j + 1, A3, c3, by omega, by go_num, rfl, h2, by rw [HSn.out, hx, ← flatV_snoc]; exact h1⟩
      obtain ⟨W3, hW3⟩ : ∃ W3, w2.alloc (.cells #[.int .i64 0, .int .i64 0, .string ⟨#[]⟩] 31) = W3 := ⟨_, rfl⟩
      have HB3 : Hid (Blok W3 w2.heap.size 31 #[.int .i64 0, .int .i64 0, .string ⟨#[]⟩]) := Lib.hid (by rw [← hW3]; exact Blok.new _ _ _ _ rfl)
      have HG3 : Hid (Grew wr W3) := Lib.hid (by rw [← hW3]; exact HG2.out.alloc _)
      have hgs := HG2.out.size
      rw [hW3]
      clear hW3 HG2
      generalize w2.heap.size = g at *
      by_cases hin : 0 ≤ p ∧ p < (r.length : Int)
      · obtain ⟨q, rfl⟩ : ∃ q : Nat, p = q := ⟨p.toNat, by omega⟩
        obtain ⟨hin0, hin1⟩ := hin
        have hq : q < r.length := by omega
        have f0 : decide ((0 : Int) ≤ (q : Int)) = true := decide_eq_true hin0
        have f1 : decide ((q : Int) < (r.length : Int)) = true := decide_eq_true hin1
        obtain ⟨rb', ro, rfl, hrb, d0, d1, d2⟩ := vlsR_at (RA.out.grew (HG.out.trans HG3.out)) hq
        have HF := Lib.hid (HF.out _ (pickV_in hq))
        obtain ⟨_, z0, z1, z2, y0, y1, y2⟩ := val_in HB3.out
        clear HSn
        generalize hxk : r[q] = x at *
        obtain ⟨xk, xi, xs⟩ := x
        simp only at d0 d1 d2 HF
        clear hxk
        go_upto_region 8 with fail
        have HB4 := Lib.hid (val_set HB3.out (.int .i64 xk) (.int .i64 xi) (.string xs))
        have HG4 := Lib.hid (grew_set3 HG3.out hgs (.int .i64 xk) (.int .i64 xi) (.string xs))
        generalize (((W3.setCell ⟨g, 0, none⟩ (.int .i64 xk)).setCell ⟨g, 1, none⟩ (.int .i64 xi)).setCell ⟨g, 2, none⟩ (.string xs)) = W4 at *
        have HO4 := Lib.hid (own_thus HO.out HG4.out)
        clear z0 z1 z2 y0 y1 y2 d0 d1 d2 HB3 HG3 RA HO
        generalize flatV (pickL r (ps.take j)) = M at *
        obtain ⟨_, e0, e1, e2, _, _, _⟩ := val_in HB4.out
        go_wp2_with (at_builtin; refine wpList_apps rfl (.tmp 29) (.tmp 31) 22 31 3 rfl w (.agg #[.int .i64 0, .int .i64 0, .string ⟨#[]⟩]) 32 Tryd.underlying22 infoV rfl (by decide) (by decide) _ _ _ rfl (own_alloc HO4.out _) _ 1 1 [.int .i64 xk, .int .i64 xi, .string xs] rfl rfl (row_new _ _ _ _ rfl) (by simp [Value.oneCell']) (by omega) ((HG.out.trans HG4.out).alloc _) ?_; intro A3 c3 w3 ho3 _ hg3 _ _; have HX := Lib.hid (HF.out A3 c3 w3 ho3 hg3); clear ho3 hg3)
        exact ⟨HX.out, by simp only [intOf]; omega⟩
      · have HF := Lib.hid (HF.out _ (pickV_out hin))
        unfold nulV at HF
        simp only at HF
        have HB4 := HB3
        have HG4 := HG3
        have HO4 := Lib.hid (own_thus HO.out HG4.out)
        clear HB3 HG3 RA HO HSn
        generalize flatV (pickL r (ps.take j)) = M at *
        by_cases hp0 : 0 ≤ p
        · have f0 : decide ((0 : Int) ≤ p) = true := decide_eq_true hp0
          have f1 : decide (p < (r.length : Int)) = false := decide_eq_false (fun h => hin ⟨hp0, h⟩)
          obtain ⟨_, e0, e1, e2, _, _, _⟩ := val_in HB4.out
          go_wp2_with (at_builtin; refine wpList_apps rfl (.tmp 29) (.tmp 31) 22 31 3 rfl w (.agg #[.int .i64 0, .int .i64 0, .string ⟨#[]⟩]) 32 Tryd.underlying22 infoV rfl (by decide) (by decide) _ _ _ rfl (own_alloc HO4.out _) _ 1 1 [.int .i64 0, .int .i64 0, .string ⟨#[]⟩] rfl rfl (row_new _ _ _ _ rfl) (by simp [Value.oneCell']) (by omega) ((HG.out.trans HG4.out).alloc _) ?_; intro A3 c3 w3 ho3 _ hg3 _ _; have HX := Lib.hid (HF.out A3 c3 w3 ho3 hg3); clear ho3 hg3)
          exact ⟨HX.out, by simp only [intOf]; omega⟩
        · have f0 : decide ((0 : Int) ≤ p) = false := decide_eq_false hp0
          obtain ⟨_, e0, e1, e2, _, _, _⟩ := val_in HB4.out
          go_wp2_with (at_builtin; refine wpList_apps rfl (.tmp 29) (.tmp 31) 22 31 3 rfl w (.agg #[.int .i64 0, .int .i64 0, .string ⟨#[]⟩]) 32 Tryd.underlying22 infoV rfl (by decide) (by decide) _ _ _ rfl (own_alloc HO4.out _) _ 1 1 [.int .i64 0, .int .i64 0, .string ⟨#[]⟩] rfl rfl (row_new _ _ _ _ rfl) (by simp [Value.oneCell']) (by omega) ((HG.out.trans HG4.out).alloc _) ?_; intro A3 c3 w3 ho3 _ hg3 _ _; have HX := Lib.hid (HF.out A3 c3 w3 ho3 hg3); clear ho3 hg3)
          exact ⟨HX.out, by simp only [intOf]; omega⟩
    · obtain rfl : j = ps.length := by omega
      rw [List.take_length] at HO
      go_wp2
      go_ret
      exact ⟨A2, c2, rfl, HG.out, HO.out⟩
set_option maxHeartbeats 4000000 in
set_option maxRecDepth 100000 in
theorem rpick_any (r : List Vl) (ps : List Int) (hp : ps.length ≤ 1000000) (A B : Option Addr) (k c : Nat) (w : World) (ra : VlsR (PRow w) A r) (rb : Row w B (iV ps)) :
    Calls Tryd.prog 21 #[.slice A r.length k, .slice B ps.length c] w (ValsF w (pickL r ps)) := by
  have RA := Lib.hid ra
  have RB := Lib.hid rb
  unfold ValsF
  rw [pickL_len]
  clear ra rb
  go_enter Tryd.func21, Tryd.ntmps21
  go_wp2
  go_loopw [5, 6] (fun v i wr => PkAt w r ps v i wr) (fun _ i _ => ps.length - (intOf i).toNat)
  case atStart => exact ⟨0, none, 0, Nat.zero_le _, rfl, rfl, Grew.refl w, own_none w _ _ 3⟩
  case round =>
    obtain ⟨j, A2, c2, hj, rfl, rfl, hg, ho⟩ := hrel
    have HG := Lib.hid hg
    have HO := Lib.hid ho
    clear hg ho
    by_cases h : j < ps.length
    · have hji : (j : Int) < (ps.length : Int) := by omega
      obtain ⟨pb, po, rfl, hpb, hpc'⟩ := (RB.out.grew HG.out).at_ (k := j) (by simp [iV, h])
      have hpc : wr.cell? ⟨pb, po + j, none⟩ = some (.int .i64 ps[j]) := by rw [hpc']; simp [iV]
      have HSn := Lib.hid (pickL_snoc (r := r) h)
      clear hpc'
      generalize ps[j] = p at *
      go_upto_region 6 with fail
      have HF : Hid (∀ (x : Vl), pickV r p = x → ∀ A3 c3 w3, w3.ownsRow w.heap.size 31 3 (.slice A3 (j + 1) c3) (j + 1) (flatV (pickL r (ps.take j)) ++ [.int .i64 x.k, .int .i64 x.i, .string x.s]) → Grew w w3 → PkAt w r ps (.slice A3 (j + 1) c3) (.int .i64 ((j : Int) + 1)) w3) := Lib.hid fun x hx A3 c3 w3 h1 h2 => ⟨j + 1, A3, c3, by omega, by go_num, rfl, h2, by rw [HSn.out, hx, ← flatV_snoc]; exact h1⟩
      obtain ⟨W3, hW3⟩ : ∃ W3, wr.alloc (.cells #[.int .i64 0, .int .i64 0, .string ⟨#[]⟩] 31) = W3 := ⟨_, rfl⟩
      have HB3 : Hid (Blok W3 wr.heap.size 31 #[.int .i64 0, .int .i64 0, .string ⟨#[]⟩]) := Lib.hid (by rw [← hW3]; exact Blok.new _ _ _ _ rfl)
      have HG3 : Hid (Grew wr W3) := Lib.hid (by rw [← hW3]; exact (Grew.refl wr).alloc _)
      have hpc3 := (HG3.out.cell (a := ⟨pb, po + j, none⟩) hpb).trans hpc
      have hpb3 := Nat.lt_of_lt_of_le hpb HG3.out.size
      have hgs : wr.heap.size ≤ wr.heap.size := Nat.le_refl _
      rw [hW3]
      clear hW3 hpc hpb
      have HGw := Lib.hid hgs
      clear hgs
      have hgs := HGw.out
      obtain ⟨g, hg⟩ : ∃ g, wr.heap.size = g := ⟨_, rfl⟩
      rw [hg] at HB3 ⊢
      have HGs : Hid (wr.heap.size ≤ g) := Lib.hid (Nat.le_of_eq hg)
      clear hg hgs HGw
      by_cases hin : 0 ≤ p ∧ p < (r.length : Int)
      · obtain ⟨q, rfl⟩ : ∃ q : Nat, p = q := ⟨p.toNat, by omega⟩
        obtain ⟨hin0, hin1⟩ := hin
        have hq : q < r.length := by omega
        have f0 : decide ((0 : Int) ≤ (q : Int)) = true := decide_eq_true hin0
        have f1 : decide ((q : Int) < (r.length : Int)) = true := decide_eq_true hin1
        obtain ⟨rb', ro, rfl, hrb, d0, d1, d2⟩ := vlsR_at (RA.out.grew (HG.out.trans HG3.out)) hq
        have HF := Lib.hid (HF.out _ (pickV_in hq))
        obtain ⟨_, z0, z1, z2, y0, y1, y2⟩ := val_in HB3.out
        clear HSn
        generalize hxk : r[q] = x at *
        obtain ⟨xk, xi, xs⟩ := x
        simp only at d0 d1 d2 HF
        clear hxk
        go_upto_region 8 with fail
        have HB4 := Lib.hid (val_set HB3.out (.int .i64 xk) (.int .i64 xi) (.string xs))
        have HG4 := Lib.hid (grew_set3 HG3.out HGs.out (.int .i64 xk) (.int .i64 xi) (.string xs))
        generalize (((W3.setCell ⟨g, 0, none⟩ (.int .i64 xk)).setCell ⟨g, 1, none⟩ (.int .i64 xi)).setCell ⟨g, 2, none⟩ (.string xs)) = W4 at *
        have HO4 := Lib.hid (own_thus HO.out HG4.out)
        clear z0 z1 z2 y0 y1 y2 d0 d1 d2 HB3 HG3 RA HO
        generalize flatV (pickL r (ps.take j)) = M at *
        obtain ⟨_, e0, e1, e2, _, _, _⟩ := val_in HB4.out
        go_wp2_with (at_builtin; refine wpList_apps rfl (.tmp 36) (.tmp 38) 22 31 3 rfl w (.agg #[.int .i64 0, .int .i64 0, .string ⟨#[]⟩]) 32 Tryd.underlying22 infoV rfl (by decide) (by decide) _ _ _ rfl (own_alloc HO4.out _) _ 1 1 [.int .i64 xk, .int .i64 xi, .string xs] rfl rfl (row_new _ _ _ _ rfl) (by simp [Value.oneCell']) (by omega) ((HG.out.trans HG4.out).alloc _) ?_; intro A3 c3 w3 ho3 _ hg3 _ _; have HX := Lib.hid (HF.out A3 c3 w3 ho3 hg3); clear ho3 hg3)
        exact ⟨HX.out, by simp only [intOf]; omega⟩
      · have HF := Lib.hid (HF.out _ (pickV_out hin))
        unfold nulV at HF
        simp only at HF
        have HB4 := HB3
        have HG4 := HG3
        have HO4 := Lib.hid (own_thus HO.out HG4.out)
        clear HB3 HG3 RA HO HSn
        generalize flatV (pickL r (ps.take j)) = M at *
        by_cases hp0 : 0 ≤ p
        · have f0 : decide ((0 : Int) ≤ p) = true := decide_eq_true hp0
          have f1 : decide (p < (r.length : Int)) = false := decide_eq_false (fun h => hin ⟨hp0, h⟩)
          obtain ⟨_, e0, e1, e2, _, _, _⟩ := val_in HB4.out
          go_wp2_with (at_builtin; refine wpList_apps rfl (.tmp 36) (.tmp 38) 22 31 3 rfl w (.agg #[.int .i64 0, .int .i64 0, .string ⟨#[]⟩]) 32 Tryd.underlying22 infoV rfl (by decide) (by decide) _ _ _ rfl (own_alloc HO4.out _) _ 1 1 [.int .i64 0, .int .i64 0, .string ⟨#[]⟩] rfl rfl (row_new _ _ _ _ rfl) (by simp [Value.oneCell']) (by omega) ((HG.out.trans HG4.out).alloc _) ?_; intro A3 c3 w3 ho3 _ hg3 _ _; have HX := Lib.hid (HF.out A3 c3 w3 ho3 hg3); clear ho3 hg3)
          exact ⟨HX.out, by simp only [intOf]; omega⟩
        · have f0 : decide ((0 : Int) ≤ p) = false := decide_eq_false hp0
          obtain ⟨_, e0, e1, e2, _, _, _⟩ := val_in HB4.out
          go_wp2_with (at_builtin; refine wpList_apps rfl (.tmp 36) (.tmp 38) 22 31 3 rfl w (.agg #[.int .i64 0, .int .i64 0, .string ⟨#[]⟩]) 32 Tryd.underlying22 infoV rfl (by decide) (by decide) _ _ _ rfl (own_alloc HO4.out _) _ 1 1 [.int .i64 0, .int .i64 0, .string ⟨#[]⟩] rfl rfl (row_new _ _ _ _ rfl) (by simp [Value.oneCell']) (by omega) ((HG.out.trans HG4.out).alloc _) ?_; intro A3 c3 w3 ho3 _ hg3 _ _; have HX := Lib.hid (HF.out A3 c3 w3 ho3 hg3); clear ho3 hg3)
          exact ⟨HX.out, by simp only [intOf]; omega⟩
    · obtain rfl : j = ps.length := by omega
      rw [List.take_length] at HO
      go_wp2
      go_ret
      exact ⟨A2, c2, rfl, HG.out, HO.out⟩
end Go.Proofs.YtklhledcnijchaaDoor
