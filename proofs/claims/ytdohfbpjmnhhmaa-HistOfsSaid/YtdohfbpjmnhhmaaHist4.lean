/- Layer 27: the marks, by the document; the page's example. Condition: no more than a million numbers. -/
import Derived.Test.YtdohfbpjmnhhmaaHist2
import Derived.Test.YtdohfbpjmnhhmaaHist3
import Derived.Test.YtdohfbpjmnhhmaaHeld
namespace Go.Proofs.Ytdohfbpjmnhhmaa
open Go.RowKit
attribute [local go_sem] more_cell more_frozen more_more more_setCell more_of_drew more_of_drewN lt_more le_more past_cell past_cell2 past_frozen past_frozen2 past_setCell past_setCell2 mid_cell mid_frozen mid_setCell
attribute [local go_sem ↓] Go.wp_at_zero Go.wp_at_succ

def RmkAt (u : World) (M : List Int) (v i : Value) (wr : World) : Prop := ∃ (j : Nat) (A : Option Addr) (c : Nat), j ≤ 9 ∧ i = .int .i64 j ∧ v = .slice A j c ∧ wr.ownsRow u.heap.size 3 1 (.slice A j c) j (iV (M.take j)) ∧ Grew u wr
set_option maxHeartbeats 1000000 in
set_option maxRecDepth 100000 in
theorem rmarks_any (l : List Int) (hl : l.length ≤ 1000000) (A : Option Addr) (k : Nat) (w : World) (ra : Row w A (iV l)) : Calls Try.prog 21 #[.slice A l.length k] w (IntsF w (marksI l)) := by
  have HS := Lib.hid (rsort_any l hl A k w ra)
  clear ra
  have hsl := sortI_len l
  by_cases h0 : l.length = 0
  · rw [marksI_nil h0]
    rw [h0] at hsl HS ⊢
    generalize sortI l = s at *
    clear hl h0
    go_enter Try.func21, Try.ntmps21
    go_wp2_with fail
    refine HS.out.mono ?_
    rintro e w2 ⟨A2, k2, rfl, hg2, hr2⟩
    rw [hsl]
    have HG2 := Lib.hid hg2
    clear hg2 hr2 HS
    go_wp2
    go_loopw [3, 5] (fun v i wr => v = .slice none 0 0 ∧ i = .int .i64 0 ∧ wr = w2) (fun _ _ _ => 0)
    case atStart => exact ⟨rfl, rfl, rfl⟩
    case round =>
      obtain ⟨rfl, rfl, rfl⟩ := hrel
      go_wp2
      go_ret
      exact ⟨none, 0, rfl, HG2.out, Or.inl rfl⟩
  have HM : Hid (∀ i, i < 9 → ∃ h : i * (l.length - 1) / 8 < (sortI l).length, (marksI l)[i]? = some (sortI l)[i * (l.length - 1) / 8]) := Lib.hid fun i hi => ⟨by rw [hsl]; exact marks_place h0 hi, marksI_at h0 hi⟩
  have HML := Lib.hid (marksI_len h0)
  obtain ⟨p, hp⟩ : ∃ p, l.length = p + 1 := ⟨l.length - 1, by omega⟩
  rw [hp] at HS HM hl hsl h0 ⊢
  generalize sortI l = s at *
  generalize marksI l = M at *
  clear hp h0
  go_enter Try.func21, Try.ntmps21
  go_wp2_with fail
  refine HS.out.mono ?_
  rintro e w2 ⟨A2, k2, rfl, hg2, hr2⟩
  rw [hsl]
  have HG2 := Lib.hid hg2
  have HR2 := Lib.hid hr2
  clear hg2 hr2 HS
  go_wp2
  go_loopw [3, 5] (fun v i wr => RmkAt w2 M v i wr) (fun _ i _ => 9 - (intOf i).toNat)
  case atStart => exact ⟨0, none, 0, Nat.zero_le _, rfl, rfl, own_none _ _ _ _, Grew.refl _⟩
  case round =>
    obtain ⟨j, B, cB, hj, rfl, rfl, ho, hg⟩ := hrel
    have hpos : (0 : Int) < (p : Int) + 1 := by omega
    by_cases h : j < 9
    · obtain ⟨hq, hm⟩ := HM.out j h
      have hpb : j * p ≤ 8 * p := Nat.mul_le_mul_right _ (by omega)
      have hjl : j < M.length := by rw [HML.out]; exact h
      have hm' : iV (M.take j) ++ [.int .i64 (s[j * (p + 1 - 1) / 8])] = iV (M.take (j + 1)) := by
        rw [List.take_succ_eq_append_getElem hjl, ← iV_snoc]
        rw [List.getElem?_eq_getElem hjl] at hm
        injection hm with hm
        rw [hm]
      obtain ⟨b, o, rfl, hbl, hc⟩ := rowI_at (HR2.out.grew hg) hq
      have HK : Hid (∀ W A c, W.ownsRow w2.heap.size 3 1 (.slice A (j + 1) c) (j + 1) (iV (M.take j) ++ [.int .i64 (s[j * (p + 1 - 1) / 8])]) → Grew w2 W → RmkAt w2 M (.slice A (j + 1) c) (.int .i64 ((j : Int) + 1)) W) := Lib.hid fun W A c hW hG => ⟨j + 1, A, c, by omega, by go_num, rfl, by rw [← hm']; exact hW, hG⟩
      have HO := Lib.hid ho
      have HG := Lib.hid hg
      clear hm hm' hg ho hj hjl
      generalize s[j * (p + 1 - 1) / 8] = x at *
      rw [Nat.add_sub_cancel] at hc hq
      obtain ⟨q, hq2⟩ : ∃ q, j * p = q := ⟨_, rfl⟩
      have hq3 : (j : Int) * (p : Int) = (q : Int) := by rw [← hq2]; push_cast; rfl
      rw [hq2] at hc hq hpb
      have hq4 : (q : Int).tdiv 8 = ((q / 8 : Nat) : Int) := by rw [Int.tdiv_eq_ediv_of_nonneg (by omega)]; rfl
      obtain ⟨r, hr⟩ : ∃ r, q / 8 = r := ⟨_, rfl⟩
      rw [hr] at hc hq hq4
      have hq5 : q ≤ 8000000 := by omega
      clear hr hq2 hpb HM
      generalize M.take j = Mj at *
      go_wp2_with (at_builtin; refine wpList_app rfl (.tmp 17) (.tmp 27) 38 3 rfl w2 (.int .i64 0) 8 Try.underlying38 infoI rfl (by decide) _ _ _ rfl (own_alloc HO.out _) _ 1 1 [.int .i64 x] rfl rfl (row_one _ _ _ _ rfl) (by simp [Value.oneCell']) (by omega) (HG.out.alloc _) ?_; intro A3 c3 w3 ho3 _ hg3 _ _; have HF : Hid (RmkAt w2 M (.slice A3 (j + 1) c3) (.int .i64 ((j : Int) + 1)) w3) := Lib.hid (HK.out w3 A3 c3 ho3 hg3); clear ho3 hg3)
      exact ⟨HF.out, by simp only [intOf]; omega⟩
    · obtain rfl : j = 9 := by omega
      have HF : Hid (IntsF w M (.returned (.slice B 9 cB)) wr) := Lib.hid ⟨B, cB, by rw [HML.out], HG2.out.trans hg, by
        have := own_rowI ho
        rw [List.take_of_length_le (by rw [HML.out]; exact Nat.le_refl _)] at this
        exact this⟩
      clear ho hg HM HML HR2 HG2
      go_wp2
      go_ret
      exact HF.out
theorem live27_marks : marksI [5, 1, 3] = [1, 1, 1, 1, 3, 3, 3, 3, 5] := by
  have h : sortI [5, 1, 3] = [1, 3, 5] := (sortI_uniq (by decide) (by decide)).symm
  unfold marksI
  rw [h]
  decide
set_option maxHeartbeats 1000000 in
set_option maxRecDepth 100000 in
theorem live27_any (w : World) : Gives Try.prog 7 #[] w (.bool true) := by
  have HM : Hid (Calls Try.prog 17 #[.slice (some ⟨w.heap.size, 0, none⟩) 3 3] (w.alloc (.cells #[.int .i64 5, .int .i64 1, .int .i64 3] 3)) (IntsF (w.alloc (.cells #[.int .i64 5, .int .i64 1, .int .i64 3] 3)) [1, 1, 1, 1, 3, 3, 3, 3, 5])) := Lib.hid (by
    have h := marks_any [5, 1, 3] (by decide) (some ⟨w.heap.size, 0, none⟩) 3 (w.alloc (.cells #[.int .i64 5, .int .i64 1, .int .i64 3] 3)) (row_new w 3 w.heap.size #[.int .i64 5, .int .i64 1, .int .i64 3] rfl)
    rw [live27_marks] at h
    exact h)
  unfold Gives
  go_enter Try.func7, Try.ntmps7
  go_wp2_with fail
  refine HM.out.mono ?_
  rintro e w2 ⟨A2, k2, rfl, hg2, hr2⟩
  have HG2 := Lib.hid (((Grew.refl w).alloc _).trans hg2)
  have HR2 := Lib.hid hr2
  clear hg2 hr2 HM
  have HS : Hid (∀ B W, Grew w2 W → Row W (some B) (iV [1, 1, 1, 1, 3, 3, 3, 3, 5]) → Gives Try.prog 20 #[.slice A2 9 k2, .slice (some B) 9 9] W (.bool true)) := Lib.hid fun B W hW hR => samelist_any [1, 1, 1, 1, 3, 3, 3, 3, 5] [1, 1, 1, 1, 3, 3, 3, 3, 5] A2 (some B) k2 9 W (HR2.out.grew hW) hR (by decide) (by decide)
  have HB : Hid (∀ W, Grew w2 W → Gives Try.prog 18 #[.slice A2 9 k2, .int .i64 3] W (.int .i64 4)) := Lib.hid fun W hW => below_any [1, 1, 1, 1, 3, 3, 3, 3, 5] (by decide) A2 k2 3 W (HR2.out.grew hW)
  have HS2 : Hid (Gives Try.prog 20 #[.slice A2 9 k2, .slice (some ⟨w2.heap.size, 0, none⟩) 9 9] (w2.alloc (.cells #[.int .i64 1, .int .i64 1, .int .i64 1, .int .i64 1, .int .i64 3, .int .i64 3, .int .i64 3, .int .i64 3, .int .i64 5] 3)) (.bool true)) := Lib.hid (HS.out _ _ ((Grew.refl w2).alloc _) (row_new w2 3 w2.heap.size #[.int .i64 1, .int .i64 1, .int .i64 1, .int .i64 1, .int .i64 3, .int .i64 3, .int .i64 3, .int .i64 3, .int .i64 5] rfl))
  clear HR2 HS
  go_wp2_with fail
  refine (Gives.grows HS2.out).mono ?_
  rintro e w3 ⟨rfl, hg3⟩
  have HG3 := Lib.hid (((Grew.refl w2).alloc _).trans hg3)
  clear hg3 HS2
  go_wp2_with fail
  refine (HB.out _ HG3.out).grows.mono ?_
  rintro e w4 ⟨rfl, hg4⟩
  have HG4 := Lib.hid (HG3.out.trans hg4)
  clear hg4 HB
  go_wp2
  go_ret
  exact ⟨rfl, HG2.out.trans HG4.out⟩
end Go.Proofs.Ytdohfbpjmnhhmaa
