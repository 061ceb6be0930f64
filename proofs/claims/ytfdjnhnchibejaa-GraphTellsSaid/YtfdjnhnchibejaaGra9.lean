/- Layer 21: the law of any hypergraph. Condition: numbers that an int holds. -/
import Derived.Test.YtfdjnhnchibejaaGra8
namespace Go.Proofs.Ytfdjnhnchibejaa
open Go.RowKit
attribute [local go_sem] more_cell more_frozen more_more more_setCell more_of_drew more_of_drewN lt_more le_more past_cell past_cell2 past_frozen past_frozen2 past_setCell past_setCell2 mid_cell mid_frozen mid_setCell
attribute [local go_sem ↓] Go.wp_at_zero Go.wp_at_succ

theorem flat_bound {h : List (List Int)} {m : Nat} (hl : ∀ l ∈ h, l.length ≤ m) : h.flatten.length ≤ m * h.length := by
  induction h with
  | nil => simp
  | cons a t ih =>
    rw [List.flatten_cons, List.length_append, List.length_cons]
    have h1 := hl a (by simp)
    have h2 := ih fun l h => hl l (by simp [h])
    rw [Nat.mul_succ]
    omega
theorem rows_filter_len (n : Nat) (p : Nat → Bool) : ((List.range n).filter p).length ≤ n := Nat.le_trans (List.length_filter_le _ _) (by simp)
theorem partsI_len (n : Nat) (r : Nat → Nat) : ((clsM n r).map fun l => l.map fun (a : Nat) => (a : Int)).length ≤ n := by
  rw [List.length_map, clsM_len, ← rootsL_len]
  unfold rootsL
  exact rows_filter_len _ _
theorem partsI_each (n : Nat) (r : Nat → Nat) : ∀ l ∈ (clsM n r).map fun l => l.map fun (a : Nat) => (a : Int), l.length ≤ n := by
  intro l hl
  obtain ⟨x, hx, rfl⟩ := List.mem_map.1 hl
  unfold clsM at hx
  obtain ⟨p, _, rfl⟩ := List.mem_map.1 hx
  rw [List.length_map]
  exact clsL_le _ _ _
/-- What the law has gathered. -/
def TeAt (w : World) (h : List (List Int)) (v : Int) (x5 x7 x8 x9 x10 : Value) (wr : World) : Prop :=
  ∃ (j : Nat) (A : Option Addr) (k : Nat) (A2 : Option Addr) (c2 : Nat) (css : List (List Value)), j ≤ h.length ∧ x5 = .slice A (setI (h.take j).flatten).length k ∧ (setI (h.take j).flatten).length ≤ k ∧ TRow w.heap.size wr 3 A (iV (setI (h.take j).flatten)) ∧
    x7 = .slice A2 j c2 ∧ GatG w w.heap.size ((h.take j).map setI) A2 c2 css wr ∧ x8 = .int .i64 (degI (h.take j) v) ∧ x9 = .bool (riseB (h.take j)) ∧ x10 = .int .i64 j
def TeIn (u w : World) (L e : List Int) (x5 x11 : Value) (wr : World) : Prop :=
  ∃ (q : Nat) (A : Option Addr) (k : Nat), q ≤ e.length ∧ x5 = .slice A (setI (L ++ e.take q)).length k ∧ (setI (L ++ e.take q)).length ≤ k ∧ TRow u.heap.size wr 3 A (iV (setI (L ++ e.take q))) ∧ x11 = .int .i64 q ∧ Grew w wr
set_option maxHeartbeats 4000000 in
set_option maxRecDepth 100000 in
theorem graphTells_walk (h : List (List Int)) (A : Option Addr) (k : Nat) (v : Int) (hl : h.length ≤ 1000000000000000) (hw : wfG h) (w : World) (ra : GridI (PRow w) A h) :
    Gives Try.prog 9 #[.slice A h.length k, .int .i64 v] w (.bool true) := by
  have RA := Lib.hid ra
  have HW := Lib.hid hw
  have HMu := Lib.hid (rmuch21_any h A k hl w ra)
  clear ra hw hl
  unfold Gives
  go_enter Try.func9, Try.ntmps9
  go_wp2_with fail
  refine HMu.out.mono ?_
  rintro e w1 ⟨t, rfl, hg1, h1⟩
  have HG1 := Lib.hid hg1
  have HGood := Lib.hid h1
  clear hg1 h1 HMu
  cases t
  rotate_left
  · go_wp2_with (go_at_call 55; (with_reducible refine (live21_any _).grows.mono ?_); rintro e w5 ⟨rfl, hg5⟩; have HG5 := Lib.hid (HG1.out.trans hg5); clear hg5)
    go_ret
    exact ⟨rfl, HG5.out⟩
  obtain ⟨h12, h30⟩ := HGood.out rfl
  have H12 := Lib.hid h12
  have HEl := Lib.hid h30
  have hfl := flat_bound h30
  have HFl : Hid (∀ j, ((h.take j).flatten).length ≤ 1000) := Lib.hid fun j => by have := flat_le h j; omega
  clear HGood h30 hfl
  have H0 : Hid (TeAt w h v (.slice none 0 0) (.slice none 0 0) (.int .i64 0) (.bool true) (.int .i64 0) w1) := Lib.hid ⟨0, none, 0, none, 0, [], Nat.zero_le _, rfl, Nat.zero_le _, Or.inl rfl, rfl, ⟨HG1.out, own_none _ _ _ _, .nil⟩, rfl, rfl, rfl⟩
  clear HG1
  go_wp2
  go_loopw [5, 7, 8, 9, 10] (fun x5 x7 x8 x9 x10 wr => TeAt w h v x5 x7 x8 x9 x10 wr) (fun _ _ _ _ i _ => h.length - (intOf i).toNat)
  case atStart => exact H0.out
  case round =>
    obtain ⟨j, A1, k1, A2, c2, css, hj, rfl, hk1, hr1, rfl, hG, rfl, rfl, rfl⟩ := hrel
    have HG := Lib.hid hG
    have HR1 := Lib.hid hr1
    have HK1 := Lib.hid hk1
    clear hG hr1 hk1 H0
    by_cases h1 : j < h.length
    · obtain ⟨b, o, B, c, rfl, hb0, hc0, hr0⟩ := gridI_at RA.out h1
      have HE30 := Lib.hid (HEl.out _ (List.getElem_mem h1))
      have HFj := Lib.hid (HFl.out j)
      have HX := Lib.hid (fun W (hW : Grew w W) => hr0.grew hW)
      have HSet := Lib.hid (fun W (hW : Grew w W) => rset21_any h[j] B c (Nat.le_trans HE30.out (by decide)) W (hr0.grew hW))
      have HHas := Lib.hid (fun W (hW : Grew w W) => rhas21_any h[j] v B c (Nat.le_trans HE30.out (by decide)) W (hr0.grew hW))
      have HPut := Lib.hid (fun (m : List Int) x D d (hm : m.length ≤ 1000000) (hd : (setI m).length ≤ d) W (hW : Grew w W) hr => rput21_any m x D d hm hd W w.heap.size hW.size hr)
      have HT : Hid ((h.take (j + 1)).map setI = (h.take j).map setI ++ [setI h[j]]) := Lib.hid (by rw [List.take_succ_eq_append_getElem h1, List.map_append]; rfl)
      have HFt : Hid ((h.take (j + 1)).flatten = (h.take j).flatten ++ h[j]) := Lib.hid (flat_take h1)
      have HRi : Hid (riseB (h.take (j + 1)) = (riseB (h.take j) && decide (setI h[j] = h[j]))) := Lib.hid (by rw [List.take_succ_eq_append_getElem h1, riseB_snoc])
      have HIn := Lib.hid (degI_in (v := v) h1)
      have HOut := Lib.hid (degI_out (v := v) h1)
      have hd := degI_le h v j
      have HLn : Hid (((h.take j).map setI).length = j) := Lib.hid (by rw [List.length_map, List.length_take]; omega)
      have HSl : Hid (∀ W A6 k6, Row W A6 (iV (setI h[j])) → Grew w W → Gives Try.prog 56 #[.slice A6 (setI h[j]).length k6, .slice B h[j].length c] W (.bool (decide (setI h[j] = h[j])))) := Lib.hid fun W A6 k6 h6 hW =>
        samelist_any (setI h[j]) h[j] A6 B k6 c W h6 (hr0.grew hW) (Nat.le_trans (setI_len _) (Nat.le_trans HE30.out (by decide))) (Nat.le_trans HE30.out (by decide))
      have HSn : Hid ((setI h[j]).length ≤ 30) := Lib.hid (Nat.le_trans (setI_len _) HE30.out)
      obtain ⟨q1, hq1⟩ : ∃ q1, decide (setI h[j] = h[j]) = q1 := ⟨_, rfl⟩
      rw [hq1] at HSl HRi
      clear hr0 hq1
      generalize h[j] = el at *
      have he30 := HE30.out
      generalize setI el = se at *
      generalize degI (List.take j h) v = d at *
      obtain ⟨L, hL⟩ : ∃ L, (List.take j h).flatten = L := ⟨_, rfl⟩
      rw [hL] at HR1 HK1 HFt HFj
      rw [hL]
      clear hL
      obtain ⟨S, hS⟩ : ∃ S, (List.take j h).map setI = S := ⟨_, rfl⟩
      rw [hS] at HG HT HLn
      clear hS
      obtain ⟨r, hr⟩ : ∃ r, riseB (h.take j) = r := ⟨_, rfl⟩
      rw [hr] at HRi
      rw [hr]
      clear hr
      have hb := Nat.lt_of_lt_of_le hb0 HG.out.grew.size
      have hc := (HG.out.grew.cell (a := ⟨b, o + j, none⟩) hb0).trans hc0
      have HC0 := Lib.hid hc0
      clear hc0
      generalize hn1 : (setI L).length = n1 at HK1 ⊢
      have HN1 := Lib.hid hn1
      clear hn1
      go_upto_region 10 with (go_at_call 62; (with_reducible refine (HSet.out _ HG.out.grew).mono ?_); rintro e w6 ⟨A6, k6, rfl, hk6, hg6, hr6⟩; have HG6 := Lib.hid (HG.out.on hg6); have HX6 := Lib.hid (hr6.low HG.out.grew.size); have HR16 := Lib.hid (HR1.out.grew hg6); clear hk6 hg6 hr6)
      clear hb hc
      go_upto_region 11 with (at_builtin; refine wpList_appB rfl _ _ 36 38 1 rfl w.heap.size (.slice none 0 0) 24 Try.underlying36 infoL21 rfl (by decide) (by decide) _ j css.flatten rfl (by have := own_alloc HG6.out.own (.cells #[.slice A6 se.length k6] 38); rw [HLn.out] at this; exact this) _ 1 1 [.slice A6 se.length k6] rfl rfl (row_one _ _ _ _ rfl) (by simp [Value.oneCell']) (by omega) (by rw [World.size_alloc]; have := HG6.out.grew.size; omega) ?_; intro A9 c9 w9 ho9 hg9; have HG9 := Lib.hid ((HG6.out.on ((Grew.refl _).alloc (.cells #[.slice A6 se.length k6] 38))).snoc (x := se) (v := .slice A6 se.length k6) (Nat.le_refl _) ⟨A6, k6, rfl, Or.inr (HX6.out.grew ((Grew.refl _).alloc _))⟩ (by rw [HLn.out]; exact ho9) (by rw [HLn.out]; exact hg9)); have HX9 := Lib.hid ((HX6.out.grew ((Grew.refl _).alloc (.cells #[.slice A6 se.length k6] 38))).grown (own_alloc HG6.out.own (.cells #[.slice A6 se.length k6] 38)) neII (by rw [HLn.out]; exact hg9)); have HR19 := Lib.hid ((HR16.out.grew ((Grew.refl _).alloc (.cells #[.slice A6 se.length k6] 38))).grown (own_alloc HG6.out.own (.cells #[.slice A6 se.length k6] 38)) neII (by rw [HLn.out]; exact hg9)); clear ho9 hg9)
      clear HG6 HX6 HR16 HG HR1 HSet
      rw [← HT.out] at HG9
      have hb := Nat.lt_of_lt_of_le hb0 HG9.out.grew.size
      have hc := (HG9.out.grew.cell (a := ⟨b, o + j, none⟩) hb0).trans HC0.out
      cases r
      · by_cases hv : v ∈ el
        · have HRn : Hid (riseB (h.take (j + 1)) = false) := Lib.hid (by rw [HRi.out]; rfl)
          have HDn := Lib.hid (HIn.out hv)
          rw [decide_eq_true hv] at HHas
          clear hv HIn HOut HRi
          go_upto_region 14 with (go_at_call 63; (with_reducible refine (HHas.out _ HG9.out.grew).grows.mono ?_); rintro e w11 ⟨rfl, hg11⟩; have HG11 := Lib.hid (HG9.out.on hg11); have HR11 := Lib.hid (HR19.out.grew hg11); clear hg11)
          clear hb hc HG9 HX9 HR19
          have HR12 := Lib.hid HR11.out
          go_wp2
          go_loopw [5, 11] (fun x5 x11 wx => TeIn w w11 L el x5 x11 wx) (fun _ i _ => el.length - (intOf i).toNat)
          case atStart => exact ⟨0, A1, k1, Nat.zero_le _, by rw [List.take_zero, List.append_nil, HN1.out], by rw [List.take_zero, List.append_nil, HN1.out]; exact HK1.out, by rw [List.take_zero, List.append_nil]; exact HR12.out, rfl, Grew.refl _⟩
          case round =>
            obtain ⟨q, A7, k7, hq, rfl, hk7, hr7, rfl, hg7⟩ := hrel
            have HK7 := Lib.hid hk7
            have HR7 := Lib.hid hr7
            have HGx := Lib.hid (HG11.out.grew.trans hg7)
            have HG12 := Lib.hid hg7
            clear hk7 hr7 hg7
            have hb := Nat.lt_of_lt_of_le hb0 HGx.out.size
            have hc := (HGx.out.cell (a := ⟨b, o + j, none⟩) hb0).trans HC0.out
            by_cases h2 : q < el.length
            · obtain ⟨b2, o2, rfl, hb2, hc2⟩ := rowI_at (HX.out _ HGx.out) h2
              have HLL : Hid (L ++ el.take (q + 1) = (L ++ el.take q) ++ [el[q]]) := Lib.hid (by rw [List.take_succ_eq_append_getElem h2, List.append_assoc])
              have HPx := Lib.hid (HPut.out (L ++ el.take q) el[q] A7 k7 (by have h3 := HFj.out; have h4 := HE30.out; rw [List.length_append, List.length_take]; omega) HK7.out _ HGx.out HR7.out)
              rw [← HLL.out] at HPx
              clear HLL HK7 HR7
              generalize el[q] = x at *
              generalize (setI (L ++ List.take q el)).length = n7 at *
              go_wp2_with (go_at_call 64; (with_reducible refine HPx.out.mono ?_); rintro e w8 ⟨A8, k8, rfl, hk8, hg8, hr8⟩; have HK8 := Lib.hid hk8; have HG8 := Lib.hid (HG12.out.trans hg8); have HR8 := Lib.hid hr8; clear hk8 hg8 hr8)
              exact ⟨⟨q + 1, A8, k8, by omega, rfl, HK8.out, HR8.out, by go_num, HG8.out⟩, by simp only [intOf]; omega⟩
            · obtain rfl : q = el.length := by omega
              have HF : Hid (TeAt w h v (.slice A7 (setI (L ++ el.take el.length)).length k7) (.slice A9 (j + 1) c9) (.int .i64 ((d + 1 : Nat) : Int)) (.bool false) (.int .i64 ((j + 1 : Nat) : Int)) wr) := Lib.hid (by
                have h3 := HK7.out
                have h4 := HR7.out
                rw [List.take_length, ← HFt.out] at h3 h4
                refine ⟨j + 1, A7, k7, A9, c9, _, by omega, by rw [List.take_length, ← HFt.out], h3, h4, rfl, HG11.out.on HG12.out, ?_, ?_, rfl⟩
                · rw [HDn.out]
                · rw [HRn.out])
              clear HK7 HR7
              generalize (setI (L ++ List.take el.length el)).length = n7 at *
              go_wp2
              exact ⟨by have h9 := HF.out; first | exact h9 | simpa using h9, by simp only [intOf]; omega⟩
        · have HRn : Hid (riseB (h.take (j + 1)) = false) := Lib.hid (by rw [HRi.out]; rfl)
          have HDn := Lib.hid (HOut.out hv)
          rw [decide_eq_false hv] at HHas
          clear hv HIn HOut HRi
          go_upto_region 14 with (go_at_call 63; (with_reducible refine (HHas.out _ HG9.out.grew).grows.mono ?_); rintro e w11 ⟨rfl, hg11⟩; have HG11 := Lib.hid (HG9.out.on hg11); have HR11 := Lib.hid (HR19.out.grew hg11); clear hg11)
          clear hb hc HG9 HX9 HR19
          have HR12 := Lib.hid HR11.out
          go_wp2
          go_loopw [5, 11] (fun x5 x11 wx => TeIn w w11 L el x5 x11 wx) (fun _ i _ => el.length - (intOf i).toNat)
          case atStart => exact ⟨0, A1, k1, Nat.zero_le _, by rw [List.take_zero, List.append_nil, HN1.out], by rw [List.take_zero, List.append_nil, HN1.out]; exact HK1.out, by rw [List.take_zero, List.append_nil]; exact HR12.out, rfl, Grew.refl _⟩
          case round =>
            obtain ⟨q, A7, k7, hq, rfl, hk7, hr7, rfl, hg7⟩ := hrel
            have HK7 := Lib.hid hk7
            have HR7 := Lib.hid hr7
            have HGx := Lib.hid (HG11.out.grew.trans hg7)
            have HG12 := Lib.hid hg7
            clear hk7 hr7 hg7
            have hb := Nat.lt_of_lt_of_le hb0 HGx.out.size
            have hc := (HGx.out.cell (a := ⟨b, o + j, none⟩) hb0).trans HC0.out
            by_cases h2 : q < el.length
            · obtain ⟨b2, o2, rfl, hb2, hc2⟩ := rowI_at (HX.out _ HGx.out) h2
              have HLL : Hid (L ++ el.take (q + 1) = (L ++ el.take q) ++ [el[q]]) := Lib.hid (by rw [List.take_succ_eq_append_getElem h2, List.append_assoc])
              have HPx := Lib.hid (HPut.out (L ++ el.take q) el[q] A7 k7 (by have h3 := HFj.out; have h4 := HE30.out; rw [List.length_append, List.length_take]; omega) HK7.out _ HGx.out HR7.out)
              rw [← HLL.out] at HPx
              clear HLL HK7 HR7
              generalize el[q] = x at *
              generalize (setI (L ++ List.take q el)).length = n7 at *
              go_wp2_with (go_at_call 64; (with_reducible refine HPx.out.mono ?_); rintro e w8 ⟨A8, k8, rfl, hk8, hg8, hr8⟩; have HK8 := Lib.hid hk8; have HG8 := Lib.hid (HG12.out.trans hg8); have HR8 := Lib.hid hr8; clear hk8 hg8 hr8)
              exact ⟨⟨q + 1, A8, k8, by omega, rfl, HK8.out, HR8.out, by go_num, HG8.out⟩, by simp only [intOf]; omega⟩
            · obtain rfl : q = el.length := by omega
              have HF : Hid (TeAt w h v (.slice A7 (setI (L ++ el.take el.length)).length k7) (.slice A9 (j + 1) c9) (.int .i64 (d : Int)) (.bool false) (.int .i64 ((j + 1 : Nat) : Int)) wr) := Lib.hid (by
                have h3 := HK7.out
                have h4 := HR7.out
                rw [List.take_length, ← HFt.out] at h3 h4
                refine ⟨j + 1, A7, k7, A9, c9, _, by omega, by rw [List.take_length, ← HFt.out], h3, h4, rfl, HG11.out.on HG12.out, ?_, ?_, rfl⟩
                · rw [HDn.out]
                · rw [HRn.out])
              clear HK7 HR7
              generalize (setI (L ++ List.take el.length el)).length = n7 at *
              go_wp2
              exact ⟨by have h9 := HF.out; first | exact h9 | simpa using h9, by simp only [intOf]; omega⟩
      · by_cases hv : v ∈ el
        · have HRn : Hid (riseB (h.take (j + 1)) = q1) := Lib.hid (by rw [HRi.out]; rfl)
          have HDn := Lib.hid (HIn.out hv)
          rw [decide_eq_true hv] at HHas
          clear hv HIn HOut HRi
          go_upto_region 14 with (first | (go_at_call 56; (with_reducible refine (HSl.out _ _ _ HX9.out.plain HG9.out.grew).grows.mono ?_); rintro e w10 ⟨rfl, hg10⟩; have HG10 := Lib.hid (HG9.out.on hg10); have HR10 := Lib.hid (HR19.out.grew hg10); have hb10 := Nat.lt_of_lt_of_le hb hg10.size; have hc10 := (hg10.cell (a := ⟨b, o + j, none⟩) hb).trans hc; clear hg10) | (go_at_call 63; (with_reducible refine (HHas.out _ HG10.out.grew).grows.mono ?_); rintro e w11 ⟨rfl, hg11⟩; have HG11 := Lib.hid (HG10.out.on hg11); have HR11 := Lib.hid (HR10.out.grew hg11); clear hg11))
          clear hb10 hc10
          clear hb hc HG9 HX9 HR19
          have HR12 := Lib.hid HR11.out
          go_wp2
          go_loopw [5, 11] (fun x5 x11 wx => TeIn w w11 L el x5 x11 wx) (fun _ i _ => el.length - (intOf i).toNat)
          case atStart => exact ⟨0, A1, k1, Nat.zero_le _, by rw [List.take_zero, List.append_nil, HN1.out], by rw [List.take_zero, List.append_nil, HN1.out]; exact HK1.out, by rw [List.take_zero, List.append_nil]; exact HR12.out, rfl, Grew.refl _⟩
          case round =>
            obtain ⟨q, A7, k7, hq, rfl, hk7, hr7, rfl, hg7⟩ := hrel
            have HK7 := Lib.hid hk7
            have HR7 := Lib.hid hr7
            have HGx := Lib.hid (HG11.out.grew.trans hg7)
            have HG12 := Lib.hid hg7
            clear hk7 hr7 hg7
            have hb := Nat.lt_of_lt_of_le hb0 HGx.out.size
            have hc := (HGx.out.cell (a := ⟨b, o + j, none⟩) hb0).trans HC0.out
            by_cases h2 : q < el.length
            · obtain ⟨b2, o2, rfl, hb2, hc2⟩ := rowI_at (HX.out _ HGx.out) h2
              have HLL : Hid (L ++ el.take (q + 1) = (L ++ el.take q) ++ [el[q]]) := Lib.hid (by rw [List.take_succ_eq_append_getElem h2, List.append_assoc])
              have HPx := Lib.hid (HPut.out (L ++ el.take q) el[q] A7 k7 (by have h3 := HFj.out; have h4 := HE30.out; rw [List.length_append, List.length_take]; omega) HK7.out _ HGx.out HR7.out)
              rw [← HLL.out] at HPx
              clear HLL HK7 HR7
              generalize el[q] = x at *
              generalize (setI (L ++ List.take q el)).length = n7 at *
              go_wp2_with (go_at_call 64; (with_reducible refine HPx.out.mono ?_); rintro e w8 ⟨A8, k8, rfl, hk8, hg8, hr8⟩; have HK8 := Lib.hid hk8; have HG8 := Lib.hid (HG12.out.trans hg8); have HR8 := Lib.hid hr8; clear hk8 hg8 hr8)
              exact ⟨⟨q + 1, A8, k8, by omega, rfl, HK8.out, HR8.out, by go_num, HG8.out⟩, by simp only [intOf]; omega⟩
            · obtain rfl : q = el.length := by omega
              have HF : Hid (TeAt w h v (.slice A7 (setI (L ++ el.take el.length)).length k7) (.slice A9 (j + 1) c9) (.int .i64 ((d + 1 : Nat) : Int)) (.bool q1) (.int .i64 ((j + 1 : Nat) : Int)) wr) := Lib.hid (by
                have h3 := HK7.out
                have h4 := HR7.out
                rw [List.take_length, ← HFt.out] at h3 h4
                refine ⟨j + 1, A7, k7, A9, c9, _, by omega, by rw [List.take_length, ← HFt.out], h3, h4, rfl, HG11.out.on HG12.out, ?_, ?_, rfl⟩
                · rw [HDn.out]
                · rw [HRn.out])
              clear HK7 HR7
              generalize (setI (L ++ List.take el.length el)).length = n7 at *
              go_wp2
              exact ⟨by have h9 := HF.out; first | exact h9 | simpa using h9, by simp only [intOf]; omega⟩
        · have HRn : Hid (riseB (h.take (j + 1)) = q1) := Lib.hid (by rw [HRi.out]; rfl)
          have HDn := Lib.hid (HOut.out hv)
          rw [decide_eq_false hv] at HHas
          clear hv HIn HOut HRi
          go_upto_region 14 with (first | (go_at_call 56; (with_reducible refine (HSl.out _ _ _ HX9.out.plain HG9.out.grew).grows.mono ?_); rintro e w10 ⟨rfl, hg10⟩; have HG10 := Lib.hid (HG9.out.on hg10); have HR10 := Lib.hid (HR19.out.grew hg10); have hb10 := Nat.lt_of_lt_of_le hb hg10.size; have hc10 := (hg10.cell (a := ⟨b, o + j, none⟩) hb).trans hc; clear hg10) | (go_at_call 63; (with_reducible refine (HHas.out _ HG10.out.grew).grows.mono ?_); rintro e w11 ⟨rfl, hg11⟩; have HG11 := Lib.hid (HG10.out.on hg11); have HR11 := Lib.hid (HR10.out.grew hg11); clear hg11))
          clear hb10 hc10
          clear hb hc HG9 HX9 HR19
          have HR12 := Lib.hid HR11.out
          go_wp2
          go_loopw [5, 11] (fun x5 x11 wx => TeIn w w11 L el x5 x11 wx) (fun _ i _ => el.length - (intOf i).toNat)
          case atStart => exact ⟨0, A1, k1, Nat.zero_le _, by rw [List.take_zero, List.append_nil, HN1.out], by rw [List.take_zero, List.append_nil, HN1.out]; exact HK1.out, by rw [List.take_zero, List.append_nil]; exact HR12.out, rfl, Grew.refl _⟩
          case round =>
            obtain ⟨q, A7, k7, hq, rfl, hk7, hr7, rfl, hg7⟩ := hrel
            have HK7 := Lib.hid hk7
            have HR7 := Lib.hid hr7
            have HGx := Lib.hid (HG11.out.grew.trans hg7)
            have HG12 := Lib.hid hg7
            clear hk7 hr7 hg7
            have hb := Nat.lt_of_lt_of_le hb0 HGx.out.size
            have hc := (HGx.out.cell (a := ⟨b, o + j, none⟩) hb0).trans HC0.out
            by_cases h2 : q < el.length
            · obtain ⟨b2, o2, rfl, hb2, hc2⟩ := rowI_at (HX.out _ HGx.out) h2
              have HLL : Hid (L ++ el.take (q + 1) = (L ++ el.take q) ++ [el[q]]) := Lib.hid (by rw [List.take_succ_eq_append_getElem h2, List.append_assoc])
              have HPx := Lib.hid (HPut.out (L ++ el.take q) el[q] A7 k7 (by have h3 := HFj.out; have h4 := HE30.out; rw [List.length_append, List.length_take]; omega) HK7.out _ HGx.out HR7.out)
              rw [← HLL.out] at HPx
              clear HLL HK7 HR7
              generalize el[q] = x at *
              generalize (setI (L ++ List.take q el)).length = n7 at *
              go_wp2_with (go_at_call 64; (with_reducible refine HPx.out.mono ?_); rintro e w8 ⟨A8, k8, rfl, hk8, hg8, hr8⟩; have HK8 := Lib.hid hk8; have HG8 := Lib.hid (HG12.out.trans hg8); have HR8 := Lib.hid hr8; clear hk8 hg8 hr8)
              exact ⟨⟨q + 1, A8, k8, by omega, rfl, HK8.out, HR8.out, by go_num, HG8.out⟩, by simp only [intOf]; omega⟩
            · obtain rfl : q = el.length := by omega
              have HF : Hid (TeAt w h v (.slice A7 (setI (L ++ el.take el.length)).length k7) (.slice A9 (j + 1) c9) (.int .i64 (d : Int)) (.bool q1) (.int .i64 ((j + 1 : Nat) : Int)) wr) := Lib.hid (by
                have h3 := HK7.out
                have h4 := HR7.out
                rw [List.take_length, ← HFt.out] at h3 h4
                refine ⟨j + 1, A7, k7, A9, c9, _, by omega, by rw [List.take_length, ← HFt.out], h3, h4, rfl, HG11.out.on HG12.out, ?_, ?_, rfl⟩
                · rw [HDn.out]
                · rw [HRn.out])
              clear HK7 HR7
              generalize (setI (L ++ List.take el.length el)).length = n7 at *
              go_wp2
              exact ⟨by have h9 := HF.out; first | exact h9 | simpa using h9, by simp only [intOf]; omega⟩
    · obtain rfl : j = h.length := by omega
      have HR1' := HR1.out
      have HG' := HG.out
      have HV := Lib.hid (fun W (hW : Grew w W) => vertices21_any h A k HW.out (Nat.le_trans H12.out (by decide)) (Nat.le_trans (by have := HFl.out h.length; rwa [List.take_length] at this) (by decide)) W (RA.out.grew hW))
      have HD := Lib.hid (fun W (hW : Grew w W) => degree21_any h v A k (Nat.le_trans H12.out (by decide)) (fun e he => Nat.le_trans (HEl.out e he) (by decide)) W (RA.out.grew hW))
      have HRt := Lib.hid (fun W (hW : Grew w W) => right21_any h A k (Nat.le_trans H12.out (by decide)) (fun e he => Nat.le_trans (HEl.out e he) (by decide)) W (RA.out.grew hW))
      have HSt := Lib.hid (fun W (hW : Grew w W) => sets21_any h A k HW.out (Nat.le_trans H12.out (by decide)) (fun e he => Nat.le_trans (HEl.out e he) (by decide)) W (RA.out.grew hW))
      have HP := Lib.hid (fun W (hW : Grew w W) => parts21_any h h.length rfl (Nat.le_trans H12.out (by decide)) HW.out (fun e he => Nat.le_trans (HEl.out e he) (by decide)) (Nat.le_trans (by have := HFl.out h.length; rwa [List.take_length] at this) (by decide)) A k W (RA.out.grew hW))
      have HQ := Lib.hid (fun W (hW : Grew w W) => rparts21_any h h.length rfl (Nat.le_trans H12.out (by decide)) (fun e he => Nat.le_trans (HEl.out e he) (by decide)) A k W (RA.out.grew hW))
      have hpl := partsI_len h.length (partR h)
      have hpe := partsI_each h.length (partR h)
      generalize ((clsM h.length (partR h)).map fun l => l.map fun (a : Nat) => (a : Int)) = P at *
      have hSl := setI_len h.flatten
      have hfl := HFl.out h.length
      have hm1 : ∀ l ∈ h.map setI, l.length ≤ 1000000 := fun l hl => by
        obtain ⟨x, hx, rfl⟩ := List.mem_map.1 hl
        exact Nat.le_trans (setI_len _) (Nat.le_trans (HEl.out x hx) (by decide))
      have hml : (h.map setI).length = h.length := List.length_map _
      simp only [List.take_length] at HR1' HG' hfl ⊢
      have HGm := Lib.hid HG'
      have HGD := Lib.hid HG'.done
      have HR := Lib.hid HR1'.plain
      have HG0 := Lib.hid HG'.grew
      clear HG' HR1' HG HR1 HK1
      have HS1 : Hid (∀ W B' j' B2 j2, Row W B' (iV (setI h.flatten)) → Row W B2 (iV (setI h.flatten)) → Gives Try.prog 56 #[.slice B' (setI h.flatten).length j', .slice B2 (setI h.flatten).length j2] W (.bool true)) := Lib.hid fun W B' j' B2 j2 hB h2 => by
        have := samelist_any (setI h.flatten) (setI h.flatten) B' B2 j' j2 W hB h2 (by omega) (by omega)
        rwa [decide_eq_true rfl] at this
      have HS2 : Hid (∀ W B' j' B2 j2, GridI (PRow W) B' (h.map setI) → GridI (PRow W) B2 (h.map setI) → Gives Try.prog 68 #[.slice B' (h.map setI).length j', .slice B2 (h.map setI).length j2] W (.bool true)) := Lib.hid fun W B' j' B2 j2 hB h2 => by
        have := rsamegrid_any (h.map setI) (h.map setI) B' B2 j' j2 (by omega) hm1 hm1 W hB h2
        rwa [decide_eq_true rfl] at this
      have HS3 : Hid (∀ W B' j' B2 j2, GridI (PRow W) B' P → GridI (PRow W) B2 P → Gives Try.prog 68 #[.slice B' P.length j', .slice B2 P.length j2] W (.bool true)) := Lib.hid fun W B' j' B2 j2 hB h2 => by
        have := rsamegrid_any P P B' B2 j' j2 (by omega) (fun l hl => by have := hpe l hl; omega) (fun l hl => by have := hpe l hl; omega) W hB h2
        rwa [decide_eq_true rfl] at this
      rw [hml] at HS2
      have HSt2 : Hid (∀ W, Grew w W → Calls Try.prog 69 #[.slice A h.length k] W fun e w' => ∃ B kb, e = .returned (.slice B h.length kb) ∧ Grew W w' ∧ GridI (PRow w') B (h.map setI)) := Lib.hid fun W hW => (HSt.out W hW).mono fun e w' ⟨B, kb, he, hg, hr⟩ => ⟨B, kb, by rw [← hml]; exact he, hg, hr⟩
      clear hpl hpe hSl hfl hm1 hml HSt
      generalize degI h v = dd at *
      generalize riseB h = rr at *
      generalize setI h.flatten = SS at *
      generalize h.map setI = HS at *
      have e1 : ((dd : Int) == (dd : Int)) = true := by simp
      have e2 : (rr == rr) = true := by simp
      go_wp2_with (first
        | (go_at_call 65; (with_reducible refine (HV.out _ HG0.out).mono ?_); rintro e w2 ⟨X2, k2, rfl, hg2, ho2⟩; have HG2 := Lib.hid (HG0.out.trans hg2); have HX2 := Lib.hid (own_rowI ho2); have HRa := Lib.hid (HR.out.grew hg2); have HGa := Lib.hid (HGD.out.grew hg2); clear hg2 ho2)
        | (go_at_call 56; (with_reducible refine (HS1.out _ _ _ _ _ HX2.out HRa.out).grows.mono ?_); rintro e w3 ⟨rfl, hg3⟩; have HG3 := Lib.hid (HG2.out.trans hg3); have HGb := Lib.hid (HGa.out.grew hg3); clear hg3)
        | (go_at_call 66; (with_reducible refine (HD.out _ HG3.out).grows.mono ?_); rintro e w4 ⟨rfl, hg4⟩; have HG4 := Lib.hid (HG3.out.trans hg4); have HGc := Lib.hid (HGb.out.grew hg4); clear hg4)
        | (go_at_call 67; (with_reducible refine (HRt.out _ HG4.out).grows.mono ?_); rintro e w5 ⟨rfl, hg5⟩; have HG5 := Lib.hid (HG4.out.trans hg5); have HGd := Lib.hid (HGc.out.grew hg5); clear hg5)
        | (go_at_call 69; (with_reducible refine (HSt2.out _ HG5.out).mono ?_); rintro e w6 ⟨X6, k6, rfl, hg6, hr6⟩; have HG6 := Lib.hid (HG5.out.trans hg6); have HX6 := Lib.hid hr6; have HGe := Lib.hid (HGd.out.grew hg6); clear hg6 hr6)
        | (go_at_call 68; (with_reducible refine (HS2.out _ _ _ _ _ HX6.out HGe.out).grows.mono ?_); rintro e w7 ⟨rfl, hg7⟩; have HG7 := Lib.hid (HG6.out.trans hg7); clear hg7)
        | (go_at_call 70; (with_reducible refine (HP.out _ HG7.out).mono ?_); rintro e w8 ⟨X8, k8, rfl, hg8, hr8⟩; have HG8 := Lib.hid (HG7.out.trans hg8); have HX8 := Lib.hid hr8; clear hg8 hr8)
        | (go_at_call 71; (with_reducible refine (HQ.out _ HG8.out).mono ?_); rintro e w9 ⟨X9, k9, rfl, hg9, hr9⟩; have HG9 := Lib.hid (HG8.out.trans hg9); have HX9 := Lib.hid hr9; have HX89 := Lib.hid (HX8.out.grew hg9); clear hg9 hr9)
        | (go_at_call 68; (with_reducible refine (HS3.out _ _ _ _ _ HX89.out HX9.out).grows.mono ?_); rintro e w10 ⟨rfl, hg10⟩; have HG10 := Lib.hid (HG9.out.trans hg10); clear hg10)
        | (go_at_call 55; (with_reducible refine (live21_any _).grows.mono ?_); rintro e w11 ⟨rfl, hg11⟩; have HG11 := Lib.hid (HG10.out.trans hg11); clear hg11))
      go_ret
      exact ⟨rfl, HG11.out⟩
end Go.Proofs.Ytfdjnhnchibejaa
