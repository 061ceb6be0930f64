/- Layer 27: the marks, by the program and by the document, in a row of their own. Condition: no more than a million numbers. -/
import Derived.Test.YtdohfbpjmnhhmaaHist4
import Derived.Test.YtdohfbpjmnhhmaaHist5
import Derived.Test.YtdohfbpjmnhhmaaMix
namespace Go.Proofs.Ytdohfbpjmnhhmaa
open Go.RowKit
attribute [local go_sem] more_cell more_frozen more_more more_setCell more_of_drew more_of_drewN lt_more le_more past_cell past_cell2 past_frozen past_frozen2 past_setCell past_setCell2 mid_cell mid_frozen mid_setCell
attribute [local go_sem ↓] Go.wp_at_zero Go.wp_at_succ

set_option maxHeartbeats 1000000 in
set_option maxRecDepth 100000 in
theorem marksT_any (l : List Int) (hl : l.length ≤ 1000000) (A : Option Addr) (k : Nat) (w : World) (ra : Row w A (iV l)) : Calls Try.prog 17 #[.slice A l.length k] w (IntsT w (marksI l)) := by
  have HG0 : Hid (Grew w w) := Lib.hid (Grew.refl w)
  by_cases h0 : l.length = 0
  · rw [marksI_nil h0, h0]
    clear ra hl h0
    go_enter Try.func17, Try.ntmps17
    go_wp2
    go_ret
    exact ⟨none, 0, rfl, Nat.le_refl _, HG0.out, Or.inl rfl⟩
  have HV := Lib.hid (values_any A l.length k w)
  have HS := Lib.hid (sorted_any w.heap.size A k l hl (w.alloc (.cells #[.slice A l.length k] 38)) (ra.grew ((Grew.refl w).alloc _)) (by simp) (by simp))
  have hsl := sortI_len l
  have HM : Hid (∀ i, i < 9 → ∃ h : i * (l.length - 1) / 8 < (sortI l).length, (marksI l)[i]? = some (sortI l)[i * (l.length - 1) / 8]) := Lib.hid fun i hi => ⟨by rw [hsl]; exact marks_place h0 hi, marksI_at h0 hi⟩
  have HZ : Hid (iV (marksI l) = (zsV 9 fun i => (marksI l).getD i 0).toList) := Lib.hid (by
    apply List.ext_getElem?
    intro i
    by_cases hi : i < 9
    · have : (marksI l).length = 9 := marksI_len h0
      simp [iV, zsV, hi, this]
    · rw [List.getElem?_eq_none (by simp [iV, marksI_len h0]; omega), List.getElem?_eq_none (by simp [zsV]; omega)])
  have HML := Lib.hid (marksI_len h0)
  clear ra
  obtain ⟨p, hp⟩ : ∃ p, l.length = p + 1 := ⟨l.length - 1, by omega⟩
  rw [hp] at HV HS HM hl hsl h0 ⊢
  generalize sortI l = s at *
  generalize marksI l = M at *
  clear hp h0
  have he : ¬ ((p : Int) + 1 = 0) := by omega
  go_enter Try.func17, Try.ntmps17
  go_wp2_with fail
  refine HV.out.mono ?_
  rintro e w' ⟨rfl, rfl⟩
  go_wp2_with fail
  refine HS.out.mono ?_
  rintro e w2 ⟨A2, k2, rfl, hg2, hr2⟩
  rw [hsl]
  have HG2 := Lib.hid (((Grew.refl w).alloc _).trans hg2)
  have HR2 := Lib.hid hr2
  clear hg2 hr2 HV HS HG0 he
  obtain ⟨j0, hj, hj0, hj1, hj2⟩ := info_parts infoI
  have HJ := Lib.hid hj
  have HJ0 := Lib.hid hj0
  have HJ1 := Lib.hid hj1
  have HJ2 := Lib.hid hj2
  clear hj hj0 hj1 hj2
  go_wp2_with (at_make; refine wpList_make_row _ rfl _ _ 38 rfl 3 j0 (.int .i64 0) Try.underlying38 HJ.out HJ0.out HJ1.out rfl _ _ 9 rfl rfl (by rw [HJ2.out]; decide) (by decide) ?_)
  go_loopw [15] (fun i wr => MkAt w2 w2.heap.size (fun i => M.getD i 0) i wr) (fun i _ => 9 - (intOf i).toNat)
  case atStart =>
    refine ⟨0, Nat.zero_le _, rfl, (Grew.refl w2).alloc _, ?_⟩
    rw [zsV_made 9 (fun i => if i < 0 then M.getD i 0 else 0) (fun i => by simp)]
    exact Blok.new _ _ _ _ rfl
  case round =>
    obtain ⟨j, hj, rfl, hg, hb⟩ := hrel
    by_cases h : j < 9
    · obtain ⟨hq, hm⟩ := HM.out j h
      have hpb : j * p ≤ 8 * p := Nat.mul_le_mul_right _ (by omega)
      have hm' : M.getD j 0 = s[j * (p + 1 - 1) / 8] := by rw [List.getD, hm]; rfl
      have HW : Hid (∀ W, Grew w2 W → Blok W w2.heap.size 3 ((zsV 9 fun i => if i < j then M.getD i 0 else 0).setIfInBounds j (.int .i64 (s[j * (p + 1 - 1) / 8]))) → MkAt w2 w2.heap.size (fun i => M.getD i 0) (.int .i64 ((j : Int) + 1)) W) := Lib.hid fun W hW hB => by
        refine ⟨j + 1, by omega, by go_num, hW, ?_⟩
        rw [zsV_set, ← hm', zsV_congr 9 _ (fun i => if i < j + 1 then M.getD i 0 else 0) ?_] at hB
        · exact hB
        · intro i _
          by_cases e1 : i = j
          · subst e1; simp
          · by_cases e2 : i < j
            · simp [e1, e2]; omega
            · rw [if_neg e1, if_neg e2, if_neg (by omega)]
      obtain ⟨b, o, rfl, hbl, hc⟩ := rowI_at (HR2.out.grew hg) hq
      have c1 := hb.cell j
      rw [zsV_at 9 _ j h] at c1
      have z1 := hb.thaw j
      have HK : Hid (∀ x, x = s[j * (p + 1 - 1) / 8] → MkAt w2 w2.heap.size (fun i => M.getD i 0) (.int .i64 ((j : Int) + 1)) (wr.setCell ⟨w2.heap.size, j, none⟩ (.int .i64 x))) := Lib.hid fun x hx => by
        subst hx
        exact HW.out _ (hg.setCell (Nat.le_refl _) _) (hb.set j _)
      have HK2 := Lib.hid (HK.out _ rfl)
      clear HW HK hm hm' hg hb hj
      generalize s[j * (p + 1 - 1) / 8] = x at *
      rw [Nat.add_sub_cancel] at hc hq
      obtain ⟨q, hq2⟩ : ∃ q, j * p = q := ⟨_, rfl⟩
      have hq3 : (j : Int) * (p : Int) = (q : Int) := by rw [← hq2]; push_cast; rfl
      rw [hq2] at hc hq hpb
      have hq4 : (q : Int).tdiv 8 = ((q / 8 : Nat) : Int) := by rw [Int.tdiv_eq_ediv_of_nonneg (by omega)]; rfl
      obtain ⟨r, hr⟩ : ∃ r, q / 8 = r := ⟨_, rfl⟩
      rw [hr] at hc hq hq4
      have hq5 : q ≤ 8000000 := by omega
      clear hr hq2 hpb HM HZ
      generalize (if j < j then M.getD j 0 else 0) = old at *
      go_wp2
      exact ⟨HK2.out, by simp only [intOf]; omega⟩
    · obtain rfl : j = 9 := by omega
      have hZ : TRow w.heap.size wr 3 (some ⟨w2.heap.size, 0, none⟩) (iV M) := by
        rw [HZ.out]
        have hb' : Blok wr w2.heap.size 3 (zsV 9 fun i => M.getD i 0) := by
          rw [zsV_congr 9 (fun i => M.getD i 0) (fun i => if i < 9 then M.getD i 0 else 0) (fun i hi => by rw [if_pos hi])]
          exact hb
        exact Or.inr ⟨_, 0, _, rfl, HG2.out.size, hb', fun i u hu => by rw [Nat.zero_add, ← hu]; simp⟩
      have HR : Hid (IntsT w M (.returned (.slice (some ⟨w2.heap.size, 0, none⟩) 9 9)) wr) := Lib.hid ⟨some ⟨w2.heap.size, 0, none⟩, 9, by rw [HML.out], by rw [HML.out]; exact Nat.le_refl _, HG2.out.trans hg, hZ⟩
      clear hZ hb hg hj h HM HZ HML HR2 HG2
      go_wp2
      go_ret
      exact HR.out
set_option maxHeartbeats 1000000 in
theorem rmarksT_any (l : List Int) (hl : l.length ≤ 1000000) (A : Option Addr) (k : Nat) (w : World) (ra : Row w A (iV l)) : Calls Try.prog 21 #[.slice A l.length k] w (IntsT w (marksI l)) := by
  have HS := Lib.hid (rsort_any l hl A k w ra)
  clear ra
  have hsl := sortI_len l
  by_cases h0 : l.length = 0
  · rw [marksI_nil h0]
    rw [h0] at hsl HS ⊢
    generalize sortI l = s at *
    clear hl h0
    go_enter Try.func21, Try.ntmps21
    go_wp2_with fail
    refine HS.out.mono ?_
    rintro e w2 ⟨A2, k2, rfl, hg2, hr2⟩
    rw [hsl]
    have HG2 := Lib.hid hg2
    clear hg2 hr2 HS
    go_wp2
    go_loopw [3, 5] (fun v i wr => v = .slice none 0 0 ∧ i = .int .i64 0 ∧ wr = w2) (fun _ _ _ => 0)
    case atStart => exact ⟨rfl, rfl, rfl⟩
    case round =>
      obtain ⟨rfl, rfl, rfl⟩ := hrel
      go_wp2
      go_ret
      exact ⟨none, 0, rfl, Nat.le_refl _, HG2.out, Or.inl rfl⟩
  have HM : Hid (∀ i, i < 9 → ∃ h : i * (l.length - 1) / 8 < (sortI l).length, (marksI l)[i]? = some (sortI l)[i * (l.length - 1) / 8]) := Lib.hid fun i hi => ⟨by rw [hsl]; exact marks_place h0 hi, marksI_at h0 hi⟩
  have HML := Lib.hid (marksI_len h0)
  obtain ⟨p, hp⟩ : ∃ p, l.length = p + 1 := ⟨l.length - 1, by omega⟩
  rw [hp] at HS HM hl hsl h0 ⊢
  generalize sortI l = s at *
  generalize marksI l = M at *
  clear hp h0
  go_enter Try.func21, Try.ntmps21
  go_wp2_with fail
  refine HS.out.mono ?_
  rintro e w2 ⟨A2, k2, rfl, hg2, hr2⟩
  rw [hsl]
  have HG2 := Lib.hid hg2
  have HR2 := Lib.hid hr2
  clear hg2 hr2 HS
  go_wp2
  go_loopw [3, 5] (fun v i wr => RmkAt w2 M v i wr) (fun _ i _ => 9 - (intOf i).toNat)
  case atStart => exact ⟨0, none, 0, Nat.zero_le _, rfl, rfl, own_none _ _ _ _, Grew.refl _⟩
  case round =>
    obtain ⟨j, B, cB, hj, rfl, rfl, ho, hg⟩ := hrel
    have hpos : (0 : Int) < (p : Int) + 1 := by omega
    by_cases h : j < 9
    · obtain ⟨hq, hm⟩ := HM.out j h
      have hpb : j * p ≤ 8 * p := Nat.mul_le_mul_right _ (by omega)
      have hjl : j < M.length := by rw [HML.out]; exact h
      have hm' : iV (M.take j) ++ [.int .i64 (s[j * (p + 1 - 1) / 8])] = iV (M.take (j + 1)) := by
        rw [List.take_succ_eq_append_getElem hjl, ← iV_snoc]
        rw [List.getElem?_eq_getElem hjl] at hm
        injection hm with hm
        rw [hm]
      obtain ⟨b, o, rfl, hbl, hc⟩ := rowI_at (HR2.out.grew hg) hq
      have HK : Hid (∀ W A c, W.ownsRow w2.heap.size 3 1 (.slice A (j + 1) c) (j + 1) (iV (M.take j) ++ [.int .i64 (s[j * (p + 1 - 1) / 8])]) → Grew w2 W → RmkAt w2 M (.slice A (j + 1) c) (.int .i64 ((j : Int) + 1)) W) := Lib.hid fun W A c hW hG => ⟨j + 1, A, c, by omega, by go_num, rfl, by rw [← hm']; exact hW, hG⟩
      have HO := Lib.hid ho
      have HG := Lib.hid hg
      clear hm hm' hg ho hj hjl
      generalize s[j * (p + 1 - 1) / 8] = x at *
      rw [Nat.add_sub_cancel] at hc hq
      obtain ⟨q, hq2⟩ : ∃ q, j * p = q := ⟨_, rfl⟩
      have hq3 : (j : Int) * (p : Int) = (q : Int) := by rw [← hq2]; push_cast; rfl
      rw [hq2] at hc hq hpb
      have hq4 : (q : Int).tdiv 8 = ((q / 8 : Nat) : Int) := by rw [Int.tdiv_eq_ediv_of_nonneg (by omega)]; rfl
      obtain ⟨r, hr⟩ : ∃ r, q / 8 = r := ⟨_, rfl⟩
      rw [hr] at hc hq hq4
      have hq5 : q ≤ 8000000 := by omega
      clear hr hq2 hpb HM
      generalize M.take j = Mj at *
      go_wp2_with (at_builtin; refine wpList_app rfl (.tmp 17) (.tmp 27) 38 3 rfl w2 (.int .i64 0) 8 Try.underlying38 infoI rfl (by decide) _ _ _ rfl (own_alloc HO.out _) _ 1 1 [.int .i64 x] rfl rfl (row_one _ _ _ _ rfl) (by simp [Value.oneCell']) (by omega) (HG.out.alloc _) ?_; intro A3 c3 w3 ho3 _ hg3 _ _; have HF : Hid (RmkAt w2 M (.slice A3 (j + 1) c3) (.int .i64 ((j : Int) + 1)) w3) := Lib.hid (HK.out w3 A3 c3 ho3 hg3); clear ho3 hg3)
      exact ⟨HF.out, by simp only [intOf]; omega⟩
    · obtain rfl : j = 9 := by omega
      have HF : Hid (IntsT w M (.returned (.slice B 9 cB)) wr) := Lib.hid ⟨B, cB, by rw [HML.out], by rw [HML.out]; exact own_cap' ho, HG2.out.trans hg, by
        have := TRow.own ho
        rw [List.take_of_length_le (by rw [HML.out]; exact Nat.le_refl _)] at this
        exact this.low HG2.out.size⟩
      clear ho hg HM HML HR2 HG2
      go_wp2
      go_ret
      exact HF.out
end Go.Proofs.Ytdohfbpjmnhhmaa
