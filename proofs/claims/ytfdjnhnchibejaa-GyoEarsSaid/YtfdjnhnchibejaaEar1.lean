/- Layer 22: is an edge there, is it an ear, by the program. Condition: no more than a thousand edges of no more than thirty numbers each. -/
import Derived.Test.YtfdjnhnchibejaaEarMath
namespace Go.Proofs.Ytfdjnhnchibejaa
open Go.RowKit
attribute [local go_sem] more_cell more_frozen more_more more_setCell more_of_drew more_of_drewN lt_more le_more past_cell past_cell2 past_frozen past_frozen2 past_setCell past_setCell2 mid_cell mid_frozen mid_setCell
attribute [local go_sem ↓] Go.wp_at_zero Go.wp_at_succ

def bL (l : List Bool) : List Value := l.map Value.bool
theorem bL_len (l : List Bool) : (bL l).length = l.length := by simp [bL]
theorem boolrow_at {w : World} {B : Option Addr} {l : List Bool} {j : Nat} (h : Row w B (bL l)) (hj : j < l.length) : ∃ b o, B = some ⟨b, o, none⟩ ∧ b < w.heap.size ∧ w.cell? ⟨b, o + j, none⟩ = some (.bool (thB l j)) := by
  obtain ⟨b, o, hA, hb, hc⟩ := Row.at_ h (k := j) (by simpa [bL] using hj)
  refine ⟨b, o, hA, hb, ?_⟩
  rw [hc, thB_at hj]
  simp [bL]
/-- Is an edge there still, of n? -/
def thI (n : Nat) (l : List Bool) (i : Int) : Bool := decide (0 ≤ i) && decide (i < n) && thB l i.toNat
theorem thI_nat {n j : Nat} {l : List Bool} (h : j < n) : thI n l (j : Int) = thB l j := by
  unfold thI
  rw [decide_eq_true (by omega), decide_eq_true (by omega), Int.toNat_natCast]
  rfl
theorem thB_out {l : List Bool} {k : Nat} (h : ¬ k < l.length) : thB l k = false := by
  cases e : thB l k
  · rfl
  · exact absurd (thB_lt e) h
theorem there_any (n : Nat) (l : List Bool) (A B : Option Addr) (k c : Nat) (i : Int) (w : World) (rb : Row w B (bL l)) :
    Gives Try.prog 153 #[.slice A n k, .slice B l.length c, .int .i64 i] w (.bool (thI n l i)) := by
  have RB := Lib.hid rb
  obtain ⟨t, ht⟩ : ∃ t, thI n l i = t := ⟨_, rfl⟩
  rw [ht]
  have HT := Lib.hid ht
  clear rb ht
  unfold Gives
  by_cases h0 : 0 ≤ i
  · obtain ⟨j, rfl⟩ : ∃ j : Nat, i = (j : Int) := ⟨i.toNat, by omega⟩
    have e0 : decide ((0 : Int) ≤ (j : Int)) = true := decide_eq_true h0
    by_cases h1 : (j : Int) < n
    · have e1 : decide ((j : Int) < (n : Int)) = true := decide_eq_true h1
      by_cases h2 : (j : Int) < l.length
      · have e2 : decide ((j : Int) < (l.length : Int)) = true := decide_eq_true h2
        obtain ⟨b, o, rfl, hb, hc⟩ := boolrow_at RB.out (show j < l.length by omega)
        obtain rfl : t = thB l j := by rw [← HT.out, thI_nat (by omega)]
        clear HT
        generalize thB l j = q at *
        go_enter Try.func153, Try.ntmps153
        go_wp2
        go_ret
        exact ⟨rfl, by (show Grew _ _; repeat (first | exact Grew.refl _ | refine Grew.alloc ?_ _ | refine Grew.drew ?_ | refine Grew.more ?_ _))⟩
      · have e2 : decide ((j : Int) < (l.length : Int)) = false := decide_eq_false h2
        obtain rfl : t = false := by rw [← HT.out, thI_nat (by omega), thB_out (by omega)]
        have h2' : (l.length : Int) ≤ j := by omega
        clear HT h2
        go_enter Try.func153, Try.ntmps153
        go_wp2
        go_ret
        exact ⟨rfl, by (show Grew _ _; repeat (first | exact Grew.refl _ | refine Grew.alloc ?_ _ | refine Grew.drew ?_ | refine Grew.more ?_ _))⟩
    · have e1 : decide ((j : Int) < (n : Int)) = false := decide_eq_false h1
      obtain rfl : t = false := by rw [← HT.out]; unfold thI; rw [decide_eq_false h1]; simp
      have h1' : (n : Int) ≤ j := by omega
      clear HT h1
      go_enter Try.func153, Try.ntmps153
      go_wp2
      go_ret
      exact ⟨rfl, by (show Grew _ _; repeat (first | exact Grew.refl _ | refine Grew.alloc ?_ _ | refine Grew.drew ?_ | refine Grew.more ?_ _))⟩
  · have e0 : decide ((0 : Int) ≤ i) = false := decide_eq_false h0
    obtain rfl : t = false := by rw [← HT.out]; unfold thI; rw [e0]; simp
    have h0' : i < 0 := by omega
    clear HT h0
    go_enter Try.func153, Try.ntmps153
    go_wp2
    go_ret
    exact ⟨rfl, by (show Grew _ _; repeat (first | exact Grew.refl _ | refine Grew.alloc ?_ _ | refine Grew.drew ?_ | refine Grew.more ?_ _))⟩
/-- An ear's parent, and whether it is one. -/
def earR (h : List (List Int)) (l : List Bool) (i : Int) : Option Nat := if 0 ≤ i then earP h l i.toNat else none
def earT (o : Option Nat) : Value := .tuple #[.int .i64 (match o with | some p => (p : Int) | none => 0), .bool o.isSome]
theorem earR_not {h : List (List Int)} {l : List Bool} {i : Int} (ht : thI h.length l i = false) : earR h l i = none := by
  unfold earR
  split
  · rename_i h0
    unfold earP
    rw [if_neg]
    unfold thI at ht
    rw [decide_eq_true h0, Bool.true_and] at ht
    intro hc
    rw [Bool.and_eq_true, decide_eq_true_eq] at hc
    rw [decide_eq_true (by omega), hc.2] at ht
    cases ht
  · rfl
theorem thI_in {n : Nat} {l : List Bool} {i : Int} (ht : thI n l i = true) : ∃ j : Nat, i = (j : Int) ∧ j < n ∧ thB l j = true := by
  unfold thI at ht
  simp only [Bool.and_eq_true, decide_eq_true_eq] at ht
  exact ⟨i.toNat, by omega, by omega, ht.2⟩
theorem othI_in {h : List (List Int)} {l : List Bool} {i m : Nat} (hm : m ≠ i) (ht : thB l m = true) : othI h l i (m + 1) = othI h l i m ++ edgeAt h m := by
  show (if m != i && thB l m then othI h l i m ++ edgeAt h m else othI h l i m) = _
  rw [if_pos (by simp [hm, ht])]
theorem othI_out {h : List (List Int)} {l : List Bool} {i m : Nat} (hm : m = i ∨ thB l m = false) : othI h l i (m + 1) = othI h l i m := by
  show (if m != i && thB l m then othI h l i m ++ edgeAt h m else othI h l i m) = _
  rw [if_neg]
  rcases hm with rfl | hm
  · simp
  · simp [hm]
theorem othI_wf {h : List (List Int)} {l : List Bool} {i : Nat} (hw : wfG h) (m : Nat) : wfL (othI h l i m) := fun x hx => by
  obtain ⟨k, hk, _, _, hx⟩ := othI_mem.1 hx
  unfold edgeAt at hx
  rw [List.getD_eq_getElem?_getD] at hx
  cases e : h[k]? with
  | none => rw [e] at hx; cases hx
  | some y => rw [e] at hx; exact hw y (List.mem_of_getElem? e) x hx
def OtAt (u : World) (F : Nat → List Int) (n : Nat) (v i : Value) (wr : World) : Prop := ∃ (m : Nat) (A : Option Addr) (c : Nat), m ≤ n ∧ v = .slice A (F m).length c ∧ i = .int .i64 m ∧ Grew u wr ∧ wr.ownsRow u.heap.size 3 1 (.slice A (F m).length c) (F m).length (iV (F m))
def EaAt (u : World) (q : Nat → Bool) (n : Nat) (i : Value) (wr : World) : Prop := ∃ m : Nat, m ≤ n ∧ i = .int .i64 m ∧ Grew u wr ∧ ∀ j, j < m → q j = false
theorem iV_append (a b : List Int) : iV a ++ iV b = iV (a ++ b) := by simp [iV]
theorem iV_cells (l : List Int) : ∀ u ∈ iV l, u.oneCell' = true := by
  intro u hu
  obtain ⟨x, _, rfl⟩ := List.mem_map.1 hu
  rfl
set_option maxHeartbeats 2000000 in
set_option maxRecDepth 100000 in
theorem ear22_any (h : List (List Int)) (n : Nat) (hn : h.length = n) (hn1 : n ≤ 1000) (hw : wfG h) (hel : ∀ e ∈ h, e.length ≤ 30) (l : List Bool) (A B : Option Addr) (k c : Nat) (i : Int) (w : World) (ra : GridI (PRow w) A h) (rb : Row w B (bL l)) :
    Gives Try.prog 73 #[.slice A n k, .slice B l.length c, .int .i64 i] w (earT (earR h l i)) := by
  have RA := Lib.hid ra
  have HW := Lib.hid hw
  have HEl := Lib.hid hel
  have HN := Lib.hid hn
  have HTh := Lib.hid (fun i W (hW : Grew w W) => there_any n l A B k c i W (rb.grew hW))
  unfold Gives
  by_cases ht : thI n l i = true
  rotate_left
  · have ht0 : thI n l i = false := by simpa using ht
    have HThi := Lib.hid (HTh.out i)
    rw [earR_not (by rw [hn]; exact ht0)]
    rw [ht0] at HThi
    clear ra rb hw hel hn ht ht0
    unfold earT
    go_enter Try.func73, Try.ntmps73
    go_wp2_with (go_at_call 153; (with_reducible refine (HThi.out _ (Grew.refl _)).grows.mono ?_); rintro e w6 ⟨rfl, hg6⟩; have HG6 := Lib.hid hg6; clear hg6)
    go_ret2
    exact ⟨rfl, HG6.out⟩
  obtain ⟨i, rfl, hi, hti⟩ := thI_in ht
  have HThi := Lib.hid (HTh.out i)
  rw [ht] at HThi
  have HTn : Hid (∀ (m : Nat), m < n → ∀ W, Grew w W → Gives Try.prog 153 #[.slice A n k, .slice B l.length c, .int .i64 (m : Int)] W (.bool (thB l m))) := Lib.hid fun m hm W hW => by
    have := HTh.out m W hW
    rwa [thI_nat hm] at this
  have HSome : Hid (∀ m, m < n → earQ h l i m = true → (∀ j, j < m → earQ h l i j = false) → earR h l (i : Int) = some m) := Lib.hid fun m hm hq hb => by
    unfold earR
    rw [if_pos (by omega), Int.toNat_natCast]
    unfold earP
    rw [if_pos (by rw [hn, hti, decide_eq_true hi]; rfl), find_someN (by omega) hq hb]
  have HNone : Hid ((∀ j, j < n → earQ h l i j = false) → earR h l (i : Int) = none) := Lib.hid fun hb => by
    unfold earR
    rw [if_pos (by omega), Int.toNat_natCast]
    unfold earP
    split
    · rw [find_noneN (by rw [hn]; exact hb)]
    · rfl
  have HLen : Hid (∀ m, m ≤ n → (othI h l i m).length ≤ 30000) := Lib.hid fun m hm => Nat.le_trans (othI_len hel m) (by omega)
  have HOk : Hid (∀ m, withinI (sharedI (edgeAt h i) (othI h l i n)) (edgeAt h m) = earOk h l i m) := Lib.hid fun m => by rw [← hn]; exact oth_within h l i m
  have HOw := Lib.hid (othI_wf (h := h) (l := l) (i := i) hw n)
  clear ra rb hw hel hn ht hti HTh
  generalize earR h l (i : Int) = fin at *
  have HO0 : Hid (∀ W : World, W.ownsRow w.heap.size 3 1 (.slice none (othI h l i 0).length 0) (othI h l i 0).length (iV (othI h l i 0))) := Lib.hid fun (W : World) => own_none W _ _ 1
  go_enter Try.func73, Try.ntmps73
  go_wp2_with (go_at_call 153; (with_reducible refine (HThi.out _ (Grew.refl _)).grows.mono ?_); rintro e w6 ⟨rfl, hg6⟩; have HG6 := Lib.hid hg6; clear hg6)
  go_loopw [8, 19] (fun v x wr => OtAt w (othI h l i) n v x wr) (fun _ x _ => n - (intOf x).toNat)
  case atStart => exact ⟨0, none, 0, Nat.zero_le _, rfl, rfl, HG6.out, HO0.out _⟩
  case round =>
    obtain ⟨m, A8, c8, hm, rfl, rfl, hg, ho⟩ := hrel
    have HG := Lib.hid hg
    have HO := Lib.hid ho
    clear hg ho HG6 HO0
    have hlm := HLen.out m hm
    by_cases h1 : m < n
    · have hmh : m < h.length := by rw [HN.out]; exact h1
      by_cases hmi : m = i
      · have em : ((m : Int) != (i : Int)) = false := by simp [hmi]
        have HT := Lib.hid (othI_out (h := h) (l := l) (i := i) (m := m) (Or.inl hmi))
        clear hmi hmh
        generalize hoo : othI h l i m = oo at *
        clear hoo
        go_wp2
        exact ⟨⟨m + 1, A8, c8, by omega, by rw [HT.out], by go_num, HG.out, by rw [HT.out]; exact HO.out⟩, by simp only [intOf]; omega⟩
      · have em : ((m : Int) != (i : Int)) = true := by simp; omega
        have HThm := Lib.hid (HTn.out m h1)
        rcases htm : thB l m with _ | _
        · rw [htm] at HThm
          have HT := Lib.hid (othI_out (h := h) (l := l) (i := i) (m := m) (Or.inr htm))
          clear hmi hmh htm
          generalize hoo : othI h l i m = oo at *
          clear hoo
          go_wp2_with (go_at_call 153; (with_reducible refine (HThm.out _ HG.out).grows.mono ?_); rintro e w7 ⟨rfl, hg7⟩; have HG7 := Lib.hid (HG.out.trans hg7); have HO7 := Lib.hid (own_grewU HO.out hg7); clear hg7)
          exact ⟨⟨m + 1, A8, c8, by omega, by rw [HT.out], by go_num, HG7.out, by rw [HT.out]; exact HO7.out⟩, by simp only [intOf]; omega⟩
        · rw [htm] at HThm
          have HT0 := othI_in (h := h) (l := l) (i := i) hmi htm
          rw [edgeAt_eq hmh] at HT0
          have HT := Lib.hid HT0
          obtain ⟨b, o, D, d, rfl, hb0, hc0, hr0⟩ := gridI_at RA.out hmh
          have he30 := HEl.out _ (List.getElem_mem hmh)
          have HR0 := Lib.hid (fun W (hW : Grew w W) => hr0.grew hW)
          have HC0 := Lib.hid (fun W (hW : Grew w W) => (hW.cell (a := ⟨b, o + m, none⟩) hb0).trans hc0)
          clear hmi htm HT0 hc0 hr0
          generalize h[m] = ed at *
          clear hmh
          generalize hoo : othI h l i m = oo at *
          clear hoo
          go_wp2_with (first | (go_at_call 153; (with_reducible refine (HThm.out _ HG.out).grows.mono ?_); rintro e w7 ⟨rfl, hg7⟩; have HG7 := Lib.hid (HG.out.trans hg7); have HO7 := Lib.hid (own_grewU HO.out hg7); have hb7 := Nat.lt_of_lt_of_le hb0 HG7.out.size; have hc7 := HC0.out _ HG7.out; have HR7 := Lib.hid (HR0.out _ HG7.out); clear hg7) | (at_builtin; refine wpList_app rfl _ _ 38 3 rfl w (.int .i64 0) 8 Try.underlying38 infoI rfl (by decide) _ oo.length (iV oo) rfl HO7.out D ed.length d (iV ed) rfl (iV_len _) HR7.out (iV_cells _) (by omega) HG7.out ?_; intro A9 c9 w9 ho9 hr9 hg9 hgb9 hor9; have HG9 := Lib.hid hg9; have HO9 := Lib.hid ho9; clear ho9 hr9 hg9 hgb9 hor9))
          exact ⟨⟨m + 1, A9, c9, by omega, by rw [HT.out, List.length_append], by go_num, HG9.out, by rw [HT.out, List.length_append, ← iV_append]; exact HO9.out⟩, by simp only [intOf]; omega⟩
    · obtain rfl : m = n := by omega
      have hih : i < h.length := by rw [HN.out]; exact hi
      obtain ⟨b, o, D, d, rfl, hb0, hc0, hr0⟩ := gridI_at RA.out hih
      have he30 := HEl.out _ (List.getElem_mem hih)
      have hwe := HW.out _ (List.getElem_mem hih)
      have hee : edgeAt h i = h[i] := edgeAt_eq hih
      have hrow := own_rowI HO.out
      have HRow := Lib.hid hrow
      have HSh := Lib.hid (shared21_any h[i] (othI h l i m) D A8 d c8 hwe HOw.out (by omega) (by omega) wr (hr0.grew HG.out) hrow)
      have hb := Nat.lt_of_lt_of_le hb0 HG.out.size
      have hc := (HG.out.cell (a := ⟨b, o + i, none⟩) hb0).trans hc0
      rw [hee] at HOk
      have hws : wfL (sharedI h[i] (othI h l i m)) := fun x hx => hwe x ((sharedI_mem _ _ _).1 hx).1
      have hsl : (sharedI h[i] (othI h l i m)).length ≤ 30 := Nat.le_trans (setI_len _) (Nat.le_trans (List.length_filter_le _ _) he30)
      clear hr0 hc0 hwe hee hrow HO HRow
      generalize sharedI h[i] (othI h l i m) = sh at *
      generalize (othI h l i m).length = on at *
      generalize h[i] = ei at *
      clear hih
      go_upto_region 11 with (go_at_call 57; (with_reducible refine HSh.out.mono ?_); rintro e w10 ⟨A10, k10, rfl, hg10, ho10⟩; have HG10 := Lib.hid (HG.out.trans hg10); have HR10 := Lib.hid (own_rowI ho10); clear hg10 ho10)
      clear hb hc HSh
      go_wp2
      go_loopw [46] (fun x wx => EaAt w10 (earQ h l i) m x wx) (fun x _ => m - (intOf x).toNat)
      case atStart => exact ⟨0, Nat.zero_le _, rfl, Grew.refl _, fun j hj => by omega⟩
      case round =>
        obtain ⟨p, hp, rfl, hgx, hq⟩ := hrel
        have HGX := Lib.hid (HG10.out.trans hgx)
        have HGx0 := Lib.hid hgx
        have HRX := Lib.hid (HR10.out.grew hgx)
        have HQ := Lib.hid hq
        clear hgx hq
        by_cases h2 : p < m
        · have hph : p < h.length := by rw [HN.out]; exact h2
          have HE : Hid (earQ h l i p = (p != i && thB l p && earOk h l i p)) := Lib.hid rfl
          have HNx : Hid (earQ h l i p = false → ∀ j, j < p + 1 → earQ h l i j = false) := Lib.hid fun e j hj => by
            by_cases ej : j = p
            · subst ej; exact e
            · exact HQ.out j (by omega)
          have HFn : Hid (earQ h l i p = true → fin = some p) := Lib.hid fun e => HSome.out p h2 e HQ.out
          by_cases hpi : p = i
          · have em : ((p : Int) != (i : Int)) = false := by simp [hpi]
            have HN1 := Lib.hid (HNx.out (by rw [HE.out, hpi]; simp))
            clear hpi hph HNx HFn HE HQ
            go_wp2
            exact ⟨⟨p + 1, by omega, by go_num, HGx0.out, HN1.out⟩, by simp only [intOf]; omega⟩
          · have em : ((p : Int) != (i : Int)) = true := by simp; omega
            have em2 : (p != i) = true := by simpa using hpi
            have HThm := Lib.hid (HTn.out p h2)
            rcases htm : thB l p with _ | _
            · rw [htm] at HThm
              have HN1 := Lib.hid (HNx.out (by rw [HE.out, htm]; simp))
              clear hpi hph HNx HFn HE HQ htm em2
              go_wp2_with (go_at_call 153; (with_reducible refine (HThm.out _ HGX.out).grows.mono ?_); rintro e w11 ⟨rfl, hg11⟩; have HG11 := Lib.hid (HGx0.out.trans hg11); clear hg11)
              exact ⟨⟨p + 1, by omega, by go_num, HG11.out, HN1.out⟩, by simp only [intOf]; omega⟩
            · rw [htm] at HThm
              obtain ⟨b3, o3, D3, d3, hA3, hb3, hc3, hr3⟩ := gridI_at RA.out hph
              injection hA3 with hA3
              injection hA3 with e31 e32 _
              subst e31 e32
              have he3 := HEl.out _ (List.getElem_mem hph)
              have hw3 := HW.out _ (List.getElem_mem hph)
              have HC3 := Lib.hid (fun W (hW : Grew w W) => (hW.cell (a := ⟨b, o + p, none⟩) hb3).trans hc3)
              have HWi := Lib.hid (fun W (hR : Row W A10 (iV sh)) (hW : Grew w W) => within21_any sh h[p] A10 D3 k10 d3 hws hw3 (by omega) (by omega) W hR (hr3.grew hW))
              have HV := HOk.out p
              rw [edgeAt_eq hph] at HV
              rw [HV] at HWi
              rw [em2, htm] at HE
              clear hpi htm em2 hc3 hr3 he3 hw3 HV
              generalize h[p] = e3 at *
              clear hph
              rcases hok : earOk h l i p with _ | _
              · rw [hok] at HWi HE
                have HN1 := Lib.hid (HNx.out (by rw [HE.out]; rfl))
                clear HNx HFn HE HQ hok
                go_wp2_with (first | (go_at_call 153; (with_reducible refine (HThm.out _ HGX.out).grows.mono ?_); rintro e w11 ⟨rfl, hg11⟩; have HG11 := Lib.hid (HGX.out.trans hg11); have HGx1 := Lib.hid (HGx0.out.trans hg11); have HR11 := Lib.hid (HRX.out.grew hg11); have hb11 := Nat.lt_of_lt_of_le hb3 HG11.out.size; have hc11 := HC3.out _ HG11.out; clear hg11) | (go_at_call 59; (with_reducible refine (HWi.out _ HR11.out HG11.out).grows.mono ?_); rintro e w12 ⟨rfl, hg12⟩; have HG12 := Lib.hid (HGx1.out.trans hg12); clear hg12))
                exact ⟨⟨p + 1, by omega, by go_num, HG12.out, HN1.out⟩, by simp only [intOf]; omega⟩
              · rw [hok] at HWi HE
                have HF := Lib.hid (HFn.out (by rw [HE.out]; rfl))
                clear HNx HFn HE HQ hok
                go_wp2_with (first | (go_at_call 153; (with_reducible refine (HThm.out _ HGX.out).grows.mono ?_); rintro e w11 ⟨rfl, hg11⟩; have HG11 := Lib.hid (HGX.out.trans hg11); have HR11 := Lib.hid (HRX.out.grew hg11); have hb11 := Nat.lt_of_lt_of_le hb3 HG11.out.size; have hc11 := HC3.out _ HG11.out; clear hg11) | (go_at_call 59; (with_reducible refine (HWi.out _ HR11.out HG11.out).grows.mono ?_); rintro e w12 ⟨rfl, hg12⟩; have HG12 := Lib.hid (HG11.out.trans hg12); clear hg12))
                obtain rfl := HF.out
                go_ret2
                exact ⟨rfl, HG12.out⟩
        · obtain rfl : p = m := by omega
          obtain rfl := HNone.out HQ.out
          clear HQ
          go_wp2
          go_ret2
          exact ⟨rfl, HGX.out⟩
end Go.Proofs.Ytfdjnhnchibejaa
