/- Layer 21: degrees, whether rising, sets, by the program. Condition: no more than a million numbers. -/
import Derived.Test.YtfdjnhnchibejaaGG
namespace Go.Proofs.Ytfdjnhnchibejaa
open Go.RowKit
attribute [local go_sem] more_cell more_frozen more_more more_setCell more_of_drew more_of_drewN lt_more le_more past_cell past_cell2 past_frozen past_frozen2 past_setCell past_setCell2 mid_cell mid_frozen mid_setCell
attribute [local go_sem ↓] Go.wp_at_zero Go.wp_at_succ

theorem indexI_any (l : List Int) (v : Int) (A : Option Addr) (k : Nat) (hl : l.length ≤ 1000000) (w : World) (ra : Row w A (iV l)) :
    Calls Try.prog 161 #[.slice A l.length k, .int .i64 v] w fun e w' => ∃ r : Int, e = .returned (.int .i64 r) ∧ Grew w w' ∧ (decide (0 ≤ r) = decide (v ∈ l)) := by
  have RA := Lib.hid ra
  clear ra
  go_enter Try.func161, Try.ntmps161
  go_wp2
  go_loopw [8] (fun i wr => HasAt w l v i wr) (fun i _ => l.length - (intOf i).toNat)
  case atStart => exact ⟨0, Nat.zero_le _, rfl, Grew.refl w, by simp⟩
  case round =>
    obtain ⟨j, hj, rfl, hg, hn⟩ := hrel
    have HG := Lib.hid hg
    have HN := Lib.hid hn
    clear hg hn
    by_cases h : j < l.length
    · obtain ⟨b, o, rfl, hb, hc⟩ := rowI_at (RA.out.grew HG.out) h
      have HNx := Lib.hid (not_take h HN.out)
      have HY : Hid (l[j] = v → v ∈ l) := Lib.hid fun e => by rw [← e]; exact List.getElem_mem h
      clear HN
      generalize l[j] = x at *
      by_cases e : x = v
      · have HM := Lib.hid (HY.out e)
        have e1 : (v == x) = true := by simpa using e.symm
        clear HNx HY e
        go_wp2
        go_ret
        exact ⟨_, rfl, HG.out, by rw [decide_eq_true HM.out]; exact decide_eq_true (by omega)⟩
      · have HN2 := Lib.hid (HNx.out e)
        have e1 : (v == x) = false := by simpa using fun q => e q.symm
        clear HNx HY e
        go_wp2
        exact ⟨⟨j + 1, by omega, by go_num, HG.out, HN2.out⟩, by simp only [intOf]; omega⟩
    · obtain rfl : j = l.length := by omega
      rw [List.take_length] at HN
      go_wp2
      go_ret
      exact ⟨_, rfl, HG.out, by rw [decide_eq_false HN.out]; rfl⟩
theorem containsI_any (l : List Int) (v : Int) (A : Option Addr) (k : Nat) (hl : l.length ≤ 1000000) (w : World) (ra : Row w A (iV l)) :
    Gives Try.prog 150 #[.slice A l.length k, .int .i64 v] w (.bool (decide (v ∈ l))) := by
  have HI := Lib.hid (indexI_any l v A k hl w ra)
  clear ra
  generalize decide (v ∈ l) = t at *
  unfold Gives
  go_enter Try.func150, Try.ntmps150
  go_wp2_with fail
  refine HI.out.mono ?_
  rintro e w2 ⟨r, rfl, hg2, hr⟩
  have HG2 := Lib.hid hg2
  clear hg2 HI
  have HR := Lib.hid hr
  clear hr
  go_wp2
  go_ret
  exact ⟨by rw [← HR.out]; rfl, HG2.out⟩
/-- How many edges have one. -/
def degI (h : List (List Int)) (v : Int) : Nat := (h.filter fun e => decide (v ∈ e)).length
theorem degI_in {h : List (List Int)} {v : Int} {j : Nat} (hj : j < h.length) (hv : v ∈ h[j]) : degI (h.take (j + 1)) v = degI (h.take j) v + 1 := by
  unfold degI
  rw [List.take_succ_eq_append_getElem hj, List.filter_append]
  simp [hv]
theorem degI_out {h : List (List Int)} {v : Int} {j : Nat} (hj : j < h.length) (hv : v ∉ h[j]) : degI (h.take (j + 1)) v = degI (h.take j) v := by
  unfold degI
  rw [List.take_succ_eq_append_getElem hj, List.filter_append]
  simp [hv]
theorem degI_le (h : List (List Int)) (v : Int) (j : Nat) : degI (h.take j) v ≤ j := by
  unfold degI
  exact Nat.le_trans (List.length_filter_le _ _) (by rw [List.length_take]; omega)
def DegAt (w : World) (h : List (List Int)) (v : Int) (x i : Value) (wr : World) : Prop := ∃ j : Nat, j ≤ h.length ∧ x = .int .i64 (degI (h.take j) v) ∧ i = .int .i64 j ∧ Grew w wr
set_option maxHeartbeats 600000 in
set_option maxRecDepth 100000 in
theorem degree21_any (h : List (List Int)) (v : Int) (A : Option Addr) (k : Nat) (hl : h.length ≤ 1000000) (hel : ∀ e ∈ h, e.length ≤ 1000000) (w : World) (ra : GridI (PRow w) A h) :
    Gives Try.prog 66 #[.slice A h.length k, .int .i64 v] w (.int .i64 (degI h v)) := by
  have RA := Lib.hid ra
  have HEl := Lib.hid hel
  clear ra hel
  obtain ⟨fin, hfin⟩ : ∃ fin, degI h v = fin := ⟨_, rfl⟩
  rw [hfin]
  have HFin := Lib.hid hfin
  clear hfin
  unfold Gives
  go_enter Try.func66, Try.ntmps66
  go_wp2
  go_loopw [5, 10] (fun x i wr => DegAt w h v x i wr) (fun _ i _ => h.length - (intOf i).toNat)
  case atStart => exact ⟨0, Nat.zero_le _, rfl, rfl, Grew.refl w⟩
  case round =>
    obtain ⟨j, hj, rfl, rfl, hg⟩ := hrel
    have HG := Lib.hid hg
    clear hg
    have hd := degI_le h v j
    by_cases h1 : j < h.length
    · obtain ⟨b, o, B, c, rfl, hb, hc, hr⟩ := gridI_at (RA.out.grew HG.out) h1
      have HC := Lib.hid (containsI_any h[j] v B c (HEl.out _ (List.getElem_mem h1)) wr hr)
      have HIn := Lib.hid (degI_in (v := v) h1)
      have HOut := Lib.hid (degI_out (v := v) h1)
      clear hr
      generalize h[j] = e at *
      by_cases hv : v ∈ e
      · rw [decide_eq_true hv] at HC
        have HI := Lib.hid (HIn.out hv)
        clear HIn HOut hv
        generalize degI (List.take j h) v = d at *
        go_wp2_with (go_at_call 150; (with_reducible refine HC.out.grows.mono ?_); rintro e w6 ⟨rfl, hg6⟩; have HG6 := Lib.hid (HG.out.trans hg6); clear hg6)
        exact ⟨⟨j + 1, by omega, by rw [HI.out]; go_num, by go_num, HG6.out⟩, by simp only [intOf]; omega⟩
      · rw [decide_eq_false hv] at HC
        have HO := Lib.hid (HOut.out hv)
        clear HIn HOut hv
        generalize degI (List.take j h) v = d at *
        go_wp2_with (go_at_call 150; (with_reducible refine HC.out.grows.mono ?_); rintro e w6 ⟨rfl, hg6⟩; have HG6 := Lib.hid (HG.out.trans hg6); clear hg6)
        exact ⟨⟨j + 1, by omega, by rw [HO.out], by go_num, HG6.out⟩, by simp only [intOf]; omega⟩
    · obtain rfl : j = h.length := by omega
      have HE : Hid (degI (h.take h.length) v = fin) := Lib.hid (by rw [List.take_length]; exact HFin.out)
      generalize degI (List.take h.length h) v = d at *
      obtain rfl := HE.out
      clear HE HFin
      go_wp2
      go_ret
      exact ⟨rfl, HG.out⟩
theorem rising_adj {l : List Int} (H : ∀ i (_ : i + 1 < l.length), l[i] < l[i + 1]) : Rising l := by
  unfold Rising
  rw [List.pairwise_iff_getElem]
  intro i j hi hj hij
  induction j with
  | zero => omega
  | succ j ih =>
    by_cases e : i = j
    · subst e; exact H i hj
    · exact Int.lt_trans (ih (by omega) (by omega)) (H j hj)
theorem rising_not {l : List Int} {i : Nat} (hi : i + 1 < l.length) (h : ¬ l[i] < l[i + 1]) : ¬ Rising l := fun hr => by
  unfold Rising at hr
  rw [List.pairwise_iff_getElem] at hr
  exact h (hr i (i + 1) (by omega) hi (by omega))
/-- Are all edges rising, each number once? -/
def riseB (h : List (List Int)) : Bool := h.all fun e => decide (setI e = e)
theorem riseB_snoc (h : List (List Int)) (e : List Int) : riseB (h ++ [e]) = (riseB h && decide (setI e = e)) := by
  unfold riseB
  simp
def RiO (w : World) (h : List (List Int)) (i : Value) (wr : World) : Prop := ∃ j : Nat, j ≤ h.length ∧ i = .int .i64 j ∧ Grew w wr ∧ riseB (h.take j) = true
def RiI (w : World) (l : List Int) (i : Value) (wr : World) : Prop := ∃ q : Nat, (q + 1 ≤ l.length ∨ q = 0) ∧ i = .int .i64 ((q + 1 : Nat) : Int) ∧ Grew w wr ∧ ∀ i, i < q → ∀ (_ : i + 1 < l.length), l[i] < l[i + 1]
set_option maxHeartbeats 600000 in
set_option maxRecDepth 100000 in
theorem right21_any (h : List (List Int)) (A : Option Addr) (k : Nat) (hl : h.length ≤ 1000000) (hel : ∀ e ∈ h, e.length ≤ 1000000) (w : World) (ra : GridI (PRow w) A h) :
    Gives Try.prog 67 #[.slice A h.length k] w (.bool (riseB h)) := by
  have RA := Lib.hid ra
  have HEl := Lib.hid hel
  obtain ⟨t, ht⟩ : ∃ t, riseB h = t := ⟨_, rfl⟩
  rw [ht]
  have HT := Lib.hid ht
  clear ra hel ht
  unfold Gives
  go_enter Try.func67, Try.ntmps67
  go_wp2
  go_loopw [8] (fun i wr => RiO w h i wr) (fun i _ => h.length - (intOf i).toNat)
  case atStart => exact ⟨0, Nat.zero_le _, rfl, Grew.refl w, rfl⟩
  case round =>
    obtain ⟨j, hj, rfl, hg, hk⟩ := hrel
    have HG := Lib.hid hg
    have HK := Lib.hid hk
    clear hg hk
    by_cases h1 : j < h.length
    · obtain ⟨b, o, B, c, rfl, hb, hc, hr⟩ := gridI_at (RA.out.grew HG.out) h1
      have hle := HEl.out _ (List.getElem_mem h1)
      have HR := Lib.hid (fun W (hW : Grew wr W) => hr.grew hW)
      have HY : Hid (setI h[j] = h[j] → riseB (h.take (j + 1)) = true) := Lib.hid fun e => by
        rw [List.take_succ_eq_append_getElem h1, riseB_snoc, HK.out, decide_eq_true e]; rfl
      have HNo : Hid (setI h[j] ≠ h[j] → t = false) := Lib.hid fun e => by
        rw [← HT.out]
        unfold riseB
        rw [List.all_eq_false]
        exact ⟨_, List.getElem_mem h1, by simpa using e⟩
      clear hr HK HT
      generalize h[j] = l at *
      go_wp2
      go_loopw [5] (fun i wx => RiI wr l i wx) (fun i _ => l.length - (intOf i).toNat)
      case atStart => exact ⟨0, Or.inr rfl, rfl, Grew.refl wr, fun i hi => by omega⟩
      case round =>
        obtain ⟨q, hq, rfl, hg2, hs⟩ := hrel
        have HG2 := Lib.hid hg2
        have HS := Lib.hid hs
        clear hg2 hs hb hc
        by_cases h2 : q + 1 < l.length
        · obtain ⟨b2, o2, rfl, hb2, hc2⟩ := rowI_at (HR.out _ HG2.out) (show q < l.length by omega)
          have hc3 := (irow_cell (HR.out _ HG2.out) h2 rfl).2
          have HNx : Hid (l[q] < l[q + 1] → ∀ i, i < q + 1 → ∀ (_ : i + 1 < l.length), l[i] < l[i + 1]) := Lib.hid fun e i hi hil => by
            by_cases e2 : i = q
            · subst e2; exact e
            · exact HS.out i (by omega) hil
          have HX : Hid (¬ l[q] < l[q + 1] → t = false) := Lib.hid fun e => HNo.out fun e2 => rising_not h2 e ((setI_same_iff l).1 e2)
          clear HY HNo HS
          generalize l[q] = x at *
          generalize l[q + 1] = y at *
          by_cases hxy : x < y
          · have HN1 := Lib.hid (HNx.out hxy)
            clear HNx HX
            go_wp2
            go_quiet (fail)
            go_wp2
            exact ⟨⟨q + 1, by omega, by go_num, HG2.out.drewN _, HN1.out⟩, by simp only [intOf]; omega⟩
          · obtain rfl := HX.out hxy
            have hyx : y ≤ x := by omega
            clear HNx HX hxy
            go_wp2
            go_quiet (fail)
            go_wp2
            go_ret
            exact ⟨rfl, (HG.out.trans HG2.out).drewN _⟩
        · have HY1 := Lib.hid (HY.out ((setI_same_iff l).2 (rising_adj fun i hi => HS.out i (by omega) hi)))
          have h2' : (l.length : Int) ≤ ((q + 1 : Nat) : Int) := by omega
          clear HY HNo HS
          go_wp2
          exact ⟨⟨j + 1, by omega, by go_num, HG.out.trans HG2.out, HY1.out⟩, by simp only [intOf]; omega⟩
    · obtain rfl : j = h.length := by omega
      rw [List.take_length] at HK
      obtain rfl : t = true := by rw [← HT.out]; exact HK.out
      go_wp2
      go_ret
      exact ⟨rfl, HG.out⟩
def SeAt (w : World) (h : List (List Int)) (v i : Value) (wr : World) : Prop := ∃ (j : Nat) (A : Option Addr) (c : Nat) (css : List (List Value)), j ≤ h.length ∧ v = .slice A j c ∧ i = .int .i64 j ∧ GatG w w.heap.size ((h.take j).map setI) A c css wr
set_option maxHeartbeats 600000 in
set_option maxRecDepth 100000 in
theorem sets21_any (h : List (List Int)) (A : Option Addr) (k : Nat) (hw : wfG h) (hl : h.length ≤ 1000000) (hel : ∀ e ∈ h, e.length ≤ 1000000) (w : World) (ra : GridI (PRow w) A h) :
    Calls Try.prog 69 #[.slice A h.length k] w (GridF w (h.map setI)) := by
  have RA := Lib.hid ra
  have HW := Lib.hid hw
  have HEl := Lib.hid hel
  obtain ⟨i0, hi, hz0, hz1, hz2⟩ := info_parts infoL21
  have HI := Lib.hid hi
  have HI0 := Lib.hid hz0
  have HI1 := Lib.hid hz1
  have HI2 := Lib.hid hz2
  clear ra hel hw hi hz0 hz1 hz2
  go_enter Try.func69, Try.ntmps69
  go_wp2_with (at_make; refine wpList_make_cap _ rfl _ _ 36 rfl 38 i0 (.slice none 0 0) Try.underlying36 HI.out HI0.out HI1.out rfl _ _ h.length rfl rfl (by rw [HI2.out]; omega) (by omega) ?_)
  have HO1 : Hid ((w.alloc (.cells (madeCells #[.slice none 0 0] h.length) 38)).ownsRow w.heap.size 38 1 (.slice (some ⟨w.heap.size, 0, none⟩) 0 h.length) 0 []) := Lib.hid ⟨rfl, Or.inr ⟨w.heap.size, h.length, madeCells #[.slice none 0 0] h.length, rfl, Nat.le_refl _, heap_alloc_new w _, Nat.zero_le _, by unfold maxLen; omega, by simp [size_madeCells], by simp⟩⟩
  have H0 : Hid (SeAt w h (.slice (some ⟨w.heap.size, 0, none⟩) 0 h.length) (.int .i64 0) (w.alloc (.cells (madeCells #[.slice none 0 0] h.length) 38))) := Lib.hid ⟨0, _, _, [], Nat.zero_le _, rfl, rfl, (Grew.refl w).alloc _, HO1.out, .nil⟩
  clear HO1 HI HI0 HI1 HI2
  generalize w.alloc (.cells (madeCells #[.slice none 0 0] h.length) 38) = w1 at *
  go_loopw [3, 11] (fun v i wr => SeAt w h v i wr) (fun _ i _ => h.length - (intOf i).toNat)
  case atStart => exact H0.out
  case round =>
    obtain ⟨j, A1, c1, css, hj, rfl, rfl, hG⟩ := hrel
    have HG := Lib.hid hG
    clear hG H0
    by_cases h1 : j < h.length
    · obtain ⟨b, o, B, c, rfl, hb, hc, hr⟩ := gridI_at (RA.out.grew HG.out.grew) h1
      have hle := HEl.out _ (List.getElem_mem h1)
      have hwl := HW.out _ (List.getElem_mem h1)
      have HS := Lib.hid (setof_one h[j] B c hwl hle wr hr)
      have HR := Lib.hid (fun b W (hs : SetL W b h[j]) => rising_any b h[j] hwl hle W hs)
      have HT : Hid ((h.take (j + 1)).map setI = (h.take j).map setI ++ [setI h[j]]) := Lib.hid (by rw [List.take_succ_eq_append_getElem h1, List.map_append]; rfl)
      have HLn : Hid (((h.take j).map setI).length = j) := Lib.hid (by rw [List.length_map, List.length_take]; omega)
      clear hr hwl
      generalize h[j] = l at *
      go_wp2_with (first | (go_at_call 145; (with_reducible refine HS.out.mono ?_); rintro e w5 ⟨b5, rfl, hb5, hg5, hs5⟩; have HG5 := Lib.hid (((Grew.refl wr).alloc (.cells #[.slice B l.length c] 38)).trans hg5); have HS5 := Lib.hid hs5; clear hg5 hs5 hb5) | (go_at_call 147; (with_reducible refine (HR.out _ _ HS5.out).mono ?_); rintro e w6 ⟨A6, k6, rfl, hg6, ho6⟩; have HG6 := Lib.hid (HG.out.on (HG5.out.trans hg6)); have HO6 := Lib.hid (own_le ho6 (Nat.le_trans HG.out.grew.size HG5.out.size)); clear hg6 ho6) | (at_builtin; refine wpList_appB rfl _ _ 36 38 1 rfl w.heap.size (.slice none 0 0) 24 Try.underlying36 infoL21 rfl (by decide) (by decide) _ j css.flatten rfl (by have := own_alloc HG6.out.own (.cells #[.slice A6 (setI l).length k6] 38); rw [HLn.out] at this; exact this) _ 1 1 [.slice A6 (setI l).length k6] rfl rfl (row_one _ _ _ _ rfl) (by simp [Value.oneCell']) (by omega) (by rw [World.size_alloc]; have := HG6.out.grew.size; omega) ?_; intro A9 c9 w9 ho9 hg9; have HF := Lib.hid ((HG6.out.on ((Grew.refl _).alloc (.cells #[.slice A6 (setI l).length k6] 38))).snoc (x := setI l) (v := .slice A6 (setI l).length k6) (Nat.le_refl _) ⟨A6, k6, rfl, MRow.own (own_alloc HO6.out _)⟩ (by rw [HLn.out]; exact ho9) (by rw [HLn.out]; exact hg9)); clear ho9 hg9))
      exact ⟨⟨j + 1, A9, c9, _, by omega, rfl, by go_num, by rw [HT.out]; exact HF.out⟩, by simp only [intOf]; omega⟩
    · obtain rfl : j = h.length := by omega
      have HF : Hid (GridF w (h.map setI) (.returned (.slice A1 h.length c1)) wr) := Lib.hid (by
        have := HG.out.done
        rw [List.take_length] at this
        exact ⟨A1, c1, by rw [List.length_map], HG.out.grew, this⟩)
      go_wp2
      go_ret
      exact HF.out
end Go.Proofs.Ytfdjnhnchibejaa
