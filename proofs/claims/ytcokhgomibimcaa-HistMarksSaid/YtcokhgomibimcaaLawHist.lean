/- Layer 27: the law of marks. Condition: numbers that lie in memory that is there. -/
import Derived.Test.YtcokhgomibimcaaHist4
namespace Go.Proofs.Ytcokhgomibimcaa
open Go.RowKit
attribute [local go_sem] more_cell more_frozen more_more more_setCell more_of_drew more_of_drewN lt_more le_more past_cell past_cell2 past_frozen past_frozen2 past_setCell past_setCell2 mid_cell mid_frozen mid_setCell
attribute [local go_sem ↓] Go.wp_at_zero Go.wp_at_succ

set_option maxHeartbeats 2000000 in
set_option maxRecDepth 100000 in
theorem histMarks_walk (l : List Int) (A : Option Addr) (k : Nat) (n : Int) (w : World) (ra : Row w A (iV l)) : Gives Try.prog 11 #[.slice A l.length k, .int .i64 n] w (.bool true) := by
  have HG0 : Hid (Grew w w) := Lib.hid (Grew.refl w)
  unfold Gives
  by_cases hbig : 100 < l.length
  · have hb' : (100 : Int) < (l.length : Int) := by omega
    clear ra
    go_enter Try.func11, Try.ntmps11
    go_wp2_with (first | (go_at_call 68; (with_reducible refine (live27_any _).grows.mono ?_); rintro e w6 ⟨rfl, hg6⟩; have G6 := Lib.hid hg6; clear hg6))
    go_ret
    exact ⟨rfl, G6.out⟩
  have hb' : (l.length : Int) ≤ 100 := by omega
  have hl : l.length ≤ 1000000 := by omega
  have hml : (marksI l).length ≤ 1000000 := by
    by_cases h : l.length = 0
    · rw [marksI_nil h]; decide
    · rw [marksI_len h]; decide
  have HM := Lib.hid (marks_any l hl A k w ra)
  have HRM : Hid (∀ W, Grew w W → Calls Try.prog 72 #[.slice A l.length k] W (IntsF W (marksI l))) := Lib.hid fun W hW => rmarks_any l hl A k W (ra.grew hW)
  have HB1 : Hid (∀ W, Grew w W → Gives Try.prog 70 #[.slice A l.length k, .int .i64 n] W (.int .i64 (belowN l n))) := Lib.hid fun W hW => below_any l hl A k n W (ra.grew hW)
  have HB2 : Hid (∀ W, Grew w W → Gives Try.prog 71 #[.slice A l.length k, .int .i64 n] W (.int .i64 (belowN l n))) := Lib.hid fun W hW => rbelow_any l hl A k n W (ra.grew hW)
  have HB3 : Hid (∀ B j W, Row W B (iV (marksI l)) → Gives Try.prog 70 #[.slice B (marksI l).length j, .int .i64 n] W (.int .i64 (belowN (marksI l) n))) := Lib.hid fun B j W hR => below_any _ hml B j n W hR
  have HB4 : Hid (∀ B j W, Row W B (iV (marksI l)) → Gives Try.prog 71 #[.slice B (marksI l).length j, .int .i64 n] W (.int .i64 (belowN (marksI l) n))) := Lib.hid fun B j W hR => rbelow_any _ hml B j n W hR
  have HS : Hid (∀ B j C c W, Row W B (iV (marksI l)) → Row W C (iV (marksI l)) → Gives Try.prog 22 #[.slice B (marksI l).length j, .slice C (marksI l).length c] W (.bool true)) := Lib.hid fun B j C c W h1 h2 => by
    have h := samelist_any (marksI l) (marksI l) B C j c W h1 h2 (by omega) (by omega)
    rw [decide_eq_true rfl] at h
    exact h
  have HZ := Lib.hid (marks_zero l n)
  have H9 := Lib.hid (marks_nine l n)
  have HBT := Lib.hid (marks_between l n)
  have HLE : Hid (belowN l n ≤ l.length ∧ belowN (marksI l) n ≤ 1000000) := Lib.hid ⟨belowN_le l n, Nat.le_trans (belowN_le _ _) hml⟩
  clear ra hml
  generalize belowN (marksI l) n = b at *
  generalize belowN l n = c at *
  generalize marksI l = M at *
  generalize l.length = L at *
  go_enter Try.func11, Try.ntmps11
  go_wp2_with fail
  refine HM.out.mono ?_
  rintro e w1 ⟨A1, k1, rfl, hg1, hr1⟩
  have HG1 := Lib.hid hg1
  have HR1 := Lib.hid hr1
  clear hg1 hr1 HM
  go_wp2_with fail
  refine (HB3.out _ _ _ HR1.out).grows.mono ?_
  rintro e w2 ⟨rfl, hg2⟩
  have HG2 := Lib.hid (HG1.out.trans hg2)
  have HR2 := Lib.hid (HR1.out.grew hg2)
  clear hg2 HR1 HG1 HB3
  go_wp2_with fail
  refine (HB2.out _ HG2.out).grows.mono ?_
  rintro e w3 ⟨rfl, hg3⟩
  have HG3 := Lib.hid (HG2.out.trans hg3)
  have HR3 := Lib.hid (HR2.out.grew hg3)
  clear hg3 HR2 HG2 HB2
  go_wp2_with fail
  refine (HRM.out _ HG3.out).mono ?_
  rintro e w4 ⟨A4, k4, rfl, hg4, hr4⟩
  have HG4 := Lib.hid (HG3.out.trans hg4)
  have HR4 := Lib.hid (HR3.out.grew hg4)
  have HX4 := Lib.hid hr4
  clear hg4 hr4 HR3 HG3 HRM
  go_wp2_with fail
  refine (HS.out _ _ _ _ _ HR4.out HX4.out).grows.mono ?_
  rintro e w5 ⟨rfl, hg5⟩
  have HG5 := Lib.hid (HG4.out.trans hg5)
  have HR5 := Lib.hid (HR4.out.grew hg5)
  clear hg5 HR4 HX4 HG4 HS
  go_wp2_with fail
  refine (HB4.out _ _ _ HR5.out).grows.mono ?_
  rintro e w6 ⟨rfl, hg6⟩
  have HG6 := Lib.hid (HG5.out.trans hg6)
  clear hg6 HR5 HG5 HB4
  have e1 : ((b : Int) != (b : Int)) = false := by simp
  go_wp2_with fail
  refine (HB1.out _ HG6.out).grows.mono ?_
  rintro e w7 ⟨rfl, hg7⟩
  have HG7 := Lib.hid (HG6.out.trans hg7)
  clear hg7 HG6 HB1
  have e2 : ((c : Int) != (c : Int)) = false := by simp
  by_cases h0 : b = 0
  · obtain rfl := h0
    obtain rfl : c = 0 := HZ.out rfl
    clear HZ H9 HBT HLE
    go_wp2_with (first | (go_at_call 68; (with_reducible refine (live27_any _).grows.mono ?_); rintro e w8 ⟨rfl, hg8⟩; have G8 := Lib.hid (HG7.out.trans hg8); clear hg8))
    go_ret
    exact ⟨rfl, G8.out⟩
  by_cases h9 : b = 9
  · obtain rfl := h9
    obtain rfl : c = L := H9.out rfl
    clear HZ H9 HBT HLE
    go_wp2_with (first | (go_at_call 68; (with_reducible refine (live27_any _).grows.mono ?_); rintro e w8 ⟨rfl, hg8⟩; have G8 := Lib.hid (HG7.out.trans hg8); clear hg8))
    go_ret
    exact ⟨rfl, G8.out⟩
  obtain ⟨hb9, hL, hlo, hhi⟩ := HBT.out h0 h9
  obtain ⟨hcl, _⟩ := HLE.out
  obtain ⟨b, rfl⟩ : ∃ x, b = x + 1 := ⟨b - 1, by omega⟩
  obtain ⟨p, rfl⟩ : ∃ x, L = x + 1 := ⟨L - 1, by omega⟩
  rw [Nat.add_sub_cancel, Nat.add_sub_cancel] at hlo
  rw [Nat.add_sub_cancel] at hhi
  have hp1 : b * p ≤ 8 * p := Nat.mul_le_mul_right _ (by omega)
  have hp2 : (b + 1) * p ≤ 9 * p := Nat.mul_le_mul_right _ (by omega)
  obtain ⟨q1, hq1⟩ : ∃ q, b * p = q := ⟨_, rfl⟩
  obtain ⟨q2, hq2⟩ : ∃ q, (b + 1) * p = q := ⟨_, rfl⟩
  have f1 : (b : Int) * (p : Int) = (q1 : Int) := by rw [← hq1]; push_cast; rfl
  have f2 : ((b : Int) + 1) * (p : Int) = (q2 : Int) := by rw [← hq2]; push_cast; rfl
  rw [hq1] at hlo hp1
  rw [hq2] at hhi hp2
  have f3 : (q1 : Int).tdiv 8 = ((q1 / 8 : Nat) : Int) := by rw [Int.tdiv_eq_ediv_of_nonneg (by omega)]; rfl
  have f4 : (q2 : Int).tdiv 8 = ((q2 / 8 : Nat) : Int) := by rw [Int.tdiv_eq_ediv_of_nonneg (by omega)]; rfl
  have hq3 : q1 ≤ 1000 := by omega
  have hq4 : q2 ≤ 1000 := by omega
  obtain ⟨r1, hr1⟩ : ∃ r, q1 / 8 = r := ⟨_, rfl⟩
  obtain ⟨r2, hr2⟩ : ∃ r, q2 / 8 = r := ⟨_, rfl⟩
  have hr3 : r1 ≤ 1000 := by omega
  have hr4 : r2 ≤ 1000 := by omega
  rw [hr1] at hlo f3
  rw [hr2] at hhi f4
  have f5 : (r1 : Int) < (c : Int) := by omega
  have f6 : (c : Int) ≤ (r2 : Int) := by omega
  have g0 : ¬ ((b : Int) + 1 = 0) := by omega
  have g9 : ¬ ((b : Int) + 1 = 9) := by omega
  clear hr1 hr2 hq1 hq2 hp1 hp2 hlo hhi HZ H9 HBT HLE h0 h9
  go_wp2_with (first | (go_at_call 68; (with_reducible refine (live27_any _).grows.mono ?_); rintro e w8 ⟨rfl, hg8⟩; have G8 := Lib.hid (HG7.out.trans hg8); clear hg8))
  go_ret
  exact ⟨rfl, G8.out⟩
end Go.Proofs.Ytcokhgomibimcaa
