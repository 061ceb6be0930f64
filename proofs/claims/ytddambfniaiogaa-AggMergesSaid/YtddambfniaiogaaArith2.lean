/- Layer 3: both numbers together, one less the other, one times the other; values by a sign. Condition: numbers of 64 bits. -/
import Derived.Test.YtddambfniaiogaaArith
namespace Go.Proofs.Ytddambfniaiogaa
open Go.RowKit
attribute [local go_sem] more_cell more_frozen more_more more_size more_setCell
attribute [local go_sem ↓] Go.wp_at_zero Go.wp_at_succ

set_option maxHeartbeats 400000 in
theorem add_any (a b : Int) (ha : isI a) (hb : isI b) (w : World) :
    Gives Try.prog 223 #[.int .i64 a, .int .i64 b] w (.tuple #[.int .i64 (fitV (a + b)), .bool (fits (a + b))]) := by
  unfold Gives
  have HA := Lib.hid ha
  have HB := Lib.hid hb
  have HW := Lib.hid (isW_add ha hb)
  clear ha hb
  go_enter Try.func223, Try.ntmps223
  go_wp2_with fail
  refine (widen_any a HA.out _).mono ?_
  rintro e w' ⟨rfl, x, rfl⟩
  go_wp2_with fail
  refine (widen_any b HB.out _).mono ?_
  rintro e w' ⟨rfl, x, rfl⟩
  go_wp2_with fail
  refine (plus_any a b _).mono ?_
  rintro e w' ⟨rfl, x, rfl⟩
  go_wp2_with fail
  refine (narrow_any (a + b) HW.out _).mono ?_
  rintro e w' ⟨rfl, x, rfl⟩
  go_wp2_with fail
  go_ret2
  exact ⟨rfl, _, rfl⟩
set_option maxHeartbeats 400000 in
theorem sub_any (a b : Int) (ha : isI a) (hb : isI b) (w : World) :
    Gives Try.prog 224 #[.int .i64 a, .int .i64 b] w (.tuple #[.int .i64 (fitV (a - b)), .bool (fits (a - b))]) := by
  unfold Gives
  have HA := Lib.hid ha
  have HB := Lib.hid hb
  have HW := Lib.hid (isW_sub ha hb)
  clear ha hb
  go_enter Try.func224, Try.ntmps224
  go_wp2_with fail
  refine (widen_any a HA.out _).mono ?_
  rintro e w' ⟨rfl, x, rfl⟩
  go_wp2_with fail
  refine (widen_any b HB.out _).mono ?_
  rintro e w' ⟨rfl, x, rfl⟩
  go_wp2_with fail
  refine (minus_any a b _).mono ?_
  rintro e w' ⟨rfl, x, rfl⟩
  go_wp2_with fail
  refine (narrow_any (a - b) HW.out _).mono ?_
  rintro e w' ⟨rfl, x, rfl⟩
  go_wp2_with fail
  go_ret2
  exact ⟨rfl, _, rfl⟩
set_option maxHeartbeats 400000 in
theorem mul_any (a b : Int) (ha : isI a) (hb : isI b) (w : World) :
    Gives Try.prog 225 #[.int .i64 a, .int .i64 b] w (.tuple #[.int .i64 (fitV (a * b)), .bool (fits (a * b))]) := by
  unfold Gives
  have HA := Lib.hid ha
  have HB := Lib.hid hb
  have HW := Lib.hid (isW_mul ha hb)
  clear ha hb
  go_enter Try.func225, Try.ntmps225
  go_wp2_with fail
  refine (times_any a b HA.out HB.out _).mono ?_
  rintro e w' ⟨rfl, x, rfl⟩
  go_wp2_with fail
  refine (narrow_any (a * b) HW.out _).mono ?_
  rintro e w' ⟨rfl, x, rfl⟩
  go_wp2_with fail
  go_ret2
  exact ⟨rfl, _, rfl⟩
theorem ret_fit {z n : Int} (h : fits z = true) (e : n = z) : Ending.returned (.tuple #[.int .i64 n, .bool true]) = .returned (.tuple #[.int .i64 (fitV z), .bool (fits z)]) := by
  unfold fitV
  rw [if_pos h, h, e]
theorem ret_nofit {z : Int} (h : fits z = false) : Ending.returned (.tuple #[.int .i64 0, .bool false]) = .returned (.tuple #[.int .i64 (fitV z), .bool (fits z)]) := by
  unfold fitV
  rw [h]
  rfl
theorem fits_iff (z : Int) : fits z = true ↔ isI z := by unfold fits isI; simp
theorem fits_no (z : Int) (h : ¬ isI z) : fits z = false := by
  cases hf : fits z
  · rfl
  · exact absurd ((fits_iff z).1 hf) h
theorem wrap_fit {z : Int} (h : isI z) : wrap64 z = z := by unfold isI at h; unfold wrap64; omega
set_option maxHeartbeats 400000 in
theorem radd_any (a b : Int) (ha : isI a) (hb : isI b) (w : World) :
    Gives Try.prog 150 #[.int .i64 a, .int .i64 b] w (.tuple #[.int .i64 (fitV (a + b)), .bool (fits (a + b))]) := by
  unfold Gives
  go_enter Try.func150, Try.ntmps150
  go_wp2
  all_goals
    go_ret2
    unfold isI at ha hb
    (try unfold wrap64 at *)
    first
      | exact ⟨ret_nofit (fits_no _ (by unfold isI; omega)), Grew.refl w⟩
      | exact ⟨ret_fit ((fits_iff _).2 (by unfold isI; omega)) (by omega), Grew.refl w⟩
set_option maxHeartbeats 400000 in
theorem rsub_any (a b : Int) (ha : isI a) (hb : isI b) (w : World) :
    Gives Try.prog 151 #[.int .i64 a, .int .i64 b] w (.tuple #[.int .i64 (fitV (a - b)), .bool (fits (a - b))]) := by
  unfold Gives
  go_enter Try.func151, Try.ntmps151
  go_wp2
  all_goals
    go_ret2
    unfold isI at ha hb
    (try unfold wrap64 at *)
    first
      | exact ⟨ret_nofit (fits_no _ (by unfold isI; omega)), Grew.refl w⟩
      | exact ⟨ret_fit ((fits_iff _).2 (by unfold isI; omega)) (by omega), Grew.refl w⟩
theorem quo_ok {a b : Int} (h0 : b ≠ 0) : (a * b).tdiv b = a ∧ (a * b).tmod b = 0 := ⟨Int.mul_tdiv_cancel a h0, Int.mul_tmod_left a b⟩
theorem quo_self {b : Int} (h0 : b ≠ 0) : b.tdiv b = 1 := Int.tdiv_self h0
theorem quo_neg {b : Int} (h0 : b ≠ 0) : (-b).tdiv b = -1 := by rw [Int.neg_tdiv, Int.tdiv_self h0]
/-- A product that does not fit, cut to 64 bits: the quotient or the rest tells. -/
theorem quo_no {a b : Int} (hz : ¬ isI (a * b)) (h : (wrap64 (a * b)).tdiv b = a) : ((wrap64 (a * b)).tmod b != 0) = true := by
  rw [bne_iff_ne]
  intro h2
  have h3 := Int.mul_tdiv_add_tmod (wrap64 (a * b)) b
  rw [h, h2, Int.add_zero, Int.mul_comm] at h3
  have h4 := wrap_isI (a * b)
  rw [← h3] at h4
  exact hz h4
theorem tdiv_isI {n b : Int} (hn : isI n) (hb : ¬ b = -1) : wrap64 (n.tdiv b) = n.tdiv b := by
  apply wrap_fit
  unfold isI at hn ⊢
  by_cases h0 : b = 0
  · subst h0
    simp
  · have h1 : (n.tdiv b).natAbs ≤ n.natAbs := by
      rw [Int.natAbs_tdiv]
      exact Nat.div_le_self _ _
    by_cases h2 : n = -9223372036854775808
    · by_cases h3 : b = 1
      · subst h3
        simp
        omega
      · have h4 : (n.tdiv b).natAbs ≤ n.natAbs / 2 := by
          rw [Int.natAbs_tdiv]
          exact Nat.div_le_div_left (by omega) (by omega)
        omega
    · omega
set_option maxHeartbeats 1000000 in
theorem rmul_any (a b : Int) (ha : isI a) (hb : isI b) (w : World) :
    Gives Try.prog 152 #[.int .i64 a, .int .i64 b] w (.tuple #[.int .i64 (fitV (a * b)), .bool (fits (a * b))]) := by
  unfold Gives
  by_cases a0 : a = 0
  · subst a0
    go_enter Try.func152, Try.ntmps152
    go_wp2
    all_goals
      go_ret2
      exact ⟨ret_fit ((fits_iff _).2 (by unfold isI; omega)) (by omega), Grew.refl w⟩
  by_cases b0 : b = 0
  · subst b0
    go_enter Try.func152, Try.ntmps152
    go_wp2
    all_goals
      go_ret2
      exact ⟨ret_fit ((fits_iff _).2 (by unfold isI; omega)) (by omega), Grew.refl w⟩
  by_cases b1 : b = -1
  · subst b1
    have HA := Lib.hid ha
    clear ha hb
    go_enter Try.func152, Try.ntmps152
    go_wp2
    all_goals
      go_ret2
      have ha := HA.out
      unfold isI at ha
      simp only [beq_iff_eq, beq_eq_false_iff_ne] at *
      (try unfold wrap64 at *)
      first
        | exact ⟨ret_nofit (fits_no _ (by unfold isI; omega)), Grew.refl w⟩
        | exact ⟨ret_fit ((fits_iff _).2 (by unfold isI; omega)) (by omega), Grew.refl w⟩
        | omega
  by_cases a1 : a = -1
  · subst a1
    by_cases bm : b = -9223372036854775808
    · subst bm
      go_enter Try.func152, Try.ntmps152
      go_wp2
      go_ret2
      exact ⟨ret_nofit (fits_no _ (by unfold isI; omega)), Grew.refl w⟩
    · have e1 : wrap64 (-b) = -b := wrap_fit (by unfold isI at hb ⊢; omega)
      have e2 := quo_neg b0
      have e3 := quo_self b0
      have HB := Lib.hid hb
      have HM := Lib.hid bm
      have em : (b == -9223372036854775808) = false := by simpa using bm
      clear ha hb bm
      go_enter Try.func152, Try.ntmps152
      go_wp2
      go_ret2
      have hb := HB.out
      have bm := HM.out
      exact ⟨ret_fit ((fits_iff _).2 (by unfold isI at hb ⊢; omega)) (by omega), Grew.refl w⟩
  have ea : (a == 0) = false := by simpa using a0
  have eb : (b == 0) = false := by simpa using b0
  by_cases hz : isI (a * b)
  · have e1 := wrap_fit hz
    obtain ⟨e2, e3⟩ := quo_ok (a := a) b0
    have e4 := wrap_fit ha
    have HZ := Lib.hid hz
    clear ha hb hz
    go_enter Try.func152, Try.ntmps152
    go_wp2
    go_ret2
    exact ⟨ret_fit ((fits_iff _).2 HZ.out) (by first | rfl | exact wrap_fit HZ.out), Grew.refl w⟩
  · have e0 := tdiv_isI (wrap_isI (a * b)) b1
    have HZ := Lib.hid hz
    by_cases hq : (wrap64 (a * b)).tdiv b = a
    · have e2 := quo_no hz hq
      rw [hq] at e0
      clear ha hb hz
      go_enter Try.func152, Try.ntmps152
      go_wp2
      go_ret2
      exact ⟨ret_nofit (fits_no _ HZ.out), Grew.refl w⟩
    · clear ha hb hz
      go_enter Try.func152, Try.ntmps152
      go_wp2
      go_ret2
      exact ⟨ret_nofit (fits_no _ HZ.out), Grew.refl w⟩
end Go.Proofs.Ytddambfniaiogaa
