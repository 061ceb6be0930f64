/- Numbers of 128 bits as two halves of an integer; sums, differences and products of them. Plain arithmetic. -/
import Derived.WalkKit
import Derived.OpenShut
namespace Go.Proofs.Ytfdjnhnchibejaa
open Go.RowKit

/-- The low half and the high half of an integer, as numbers of 64 bits. -/
def L (z : Int) : Int := z % 18446744073709551616
def H (z : Int) : Int := z / 18446744073709551616 % 18446744073709551616
/-- The carry of two low halves; the borrow. -/
def Cy (x y : Int) : Int := (L x + L y) / 18446744073709551616
def Bw (x y : Int) : Int := if L x < L y then 1 else 0
/-- The high half of the product of two low halves. -/
def Mh (a b : Int) : Int := L a * L b / 18446744073709551616
/-- Does it fit 64 bits, signed? -/
def fits (z : Int) : Bool := decide (-9223372036854775808 ≤ z) && decide (z ≤ 9223372036854775807)
def fitV (z : Int) : Int := if fits z then z else 0
/-- A number of 64 bits, signed. -/
def isI (z : Int) : Prop := -9223372036854775808 ≤ z ∧ z ≤ 9223372036854775807

theorem L_lo (z : Int) : 0 ≤ L z := by unfold L; omega
theorem L_hi (z : Int) : L z < 18446744073709551616 := by unfold L; omega
theorem H_lo (z : Int) : 0 ≤ H z := by unfold H; omega
theorem H_hi (z : Int) : H z < 18446744073709551616 := by unfold H; omega
theorem wrapu (n : Int) : IntKind.u64.wrap n = L n := by
  rw [IntKind.wrap_u64]; unfold L; omega
theorem wrapu_half (n : Int) (h : isI n) : IntKind.u64.wrap (n / 9223372036854775808) = H n := by
  unfold isI at h
  rw [IntKind.wrap_u64]
  unfold H
  omega
theorem L_add (x y : Int) : (L x + L y) % 18446744073709551616 = L (x + y) := by unfold L; omega
theorem H_add (x y : Int) : (H x + H y + Cy x y) % 18446744073709551616 = H (x + y) := by unfold H Cy L; omega
theorem Cy_lo (x y : Int) : 0 ≤ Cy x y := by have := L_lo x; have := L_lo y; unfold Cy; omega
theorem Cy_hi (x y : Int) : Cy x y ≤ 1 := by have := L_hi x; have := L_hi y; unfold Cy; omega
theorem L_sub (x y : Int) : (L x + 18446744073709551616 - L y) % 18446744073709551616 = L (x - y) := by unfold L; omega
theorem H_sub (x y : Int) : (H x + 18446744073709551616 - H y - Bw x y) % 18446744073709551616 = H (x - y) := by
  unfold H Bw L
  split <;> omega
theorem Bw_lo (x y : Int) : 0 ≤ Bw x y := by unfold Bw; split <;> omega
theorem Bw_hi (x y : Int) : Bw x y ≤ 1 := by unfold Bw; split <;> omega
theorem L_mul (a b : Int) : L a * L b % 18446744073709551616 = L (a * b) := by
  unfold L
  rw [← Int.mul_emod]
theorem L_of (a : Int) (h : isI a) : L a = if a < 0 then a + 18446744073709551616 else a := by
  unfold isI at h; unfold L; split <;> omega
theorem mul_pp (a b : Int) (ha : isI a) (hb : isI b) (h1 : ¬ a < 0) (h2 : ¬ b < 0) : Mh a b = H (a * b) := by
  have e1 := L_of a ha
  have e2 := L_of b hb
  rw [if_neg h1] at e1
  rw [if_neg h2] at e2
  unfold Mh H
  rw [e1, e2]
  unfold isI at ha hb
  have h3 : a * b ≤ 9223372036854775807 * 9223372036854775807 := Int.mul_le_mul ha.2 hb.2 (by omega) (by omega)
  have h4 : 0 ≤ a * b := Int.mul_nonneg (by omega) (by omega)
  generalize a * b = z at *
  omega
theorem mul_np (a b : Int) (ha : isI a) (hb : isI b) (h1 : a < 0) (h2 : ¬ b < 0) : IntKind.u64.wrap (Mh a b - L b) = H (a * b) := by
  have e1 := L_of a ha
  have e2 := L_of b hb
  rw [if_pos h1] at e1
  rw [if_neg h2] at e2
  rw [IntKind.wrap_u64]
  unfold Mh H
  rw [e1, e2, Int.add_mul, Int.mul_comm 18446744073709551616 b, Int.add_mul_ediv_right _ _ (by omega)]
  omega
theorem mul_pn (a b : Int) (ha : isI a) (hb : isI b) (h1 : ¬ a < 0) (h2 : b < 0) : IntKind.u64.wrap (Mh a b - L a) = H (a * b) := by
  have e1 := L_of a ha
  have e2 := L_of b hb
  rw [if_neg h1] at e1
  rw [if_pos h2] at e2
  rw [IntKind.wrap_u64]
  unfold Mh H
  rw [e1, e2, Int.mul_add, Int.add_mul_ediv_right _ _ (by omega)]
  omega
theorem mul_nn (a b : Int) (ha : isI a) (hb : isI b) (h1 : a < 0) (h2 : b < 0) : IntKind.u64.wrap (IntKind.u64.wrap (Mh a b - L b) - L a) = H (a * b) := by
  have e1 := L_of a ha
  have e2 := L_of b hb
  rw [if_pos h1] at e1
  rw [if_pos h2] at e2
  rw [IntKind.wrap_u64, IntKind.wrap_u64]
  unfold Mh H
  rw [e1, e2]
  have e3 : (a + 18446744073709551616) * (b + 18446744073709551616) = a * b + (a + b + 18446744073709551616) * 18446744073709551616 := by
    rw [Int.add_mul, Int.mul_add, Int.mul_add]
    generalize a * b = z
    omega
  rw [e3, Int.add_mul_ediv_right _ _ (by omega)]
  generalize a * b = z
  omega
/-- An integer of not much more than 127 bits. -/
def isW (z : Int) : Prop := -170141183460469231731687303715884105728 ≤ z ∧ z < 170141183460469231731687303715884105728
theorem narrow_yes (z : Int) (h : fits z = true) : wrap64 (L z) = z := by
  simp only [fits, Bool.and_eq_true, decide_eq_true_eq] at h
  unfold wrap64 L
  omega
theorem narrow_no (z : Int) (hz : isW z) (h : fits z = false) : ¬ H (wrap64 (L z)) = H z := by
  have h' : z < -9223372036854775808 ∨ 9223372036854775807 < z := by
    by_cases h1 : -9223372036854775808 ≤ z
    · by_cases h2 : z ≤ 9223372036854775807
      · simp [fits, h1, h2] at h
      · omega
    · omega
  unfold isW at hz
  unfold H wrap64 L
  omega
theorem wrap_isI (z : Int) : isI (wrap64 z) := by unfold isI wrap64; omega
theorem fit_add (a b : Int) (ha : isI a) (hb : isI b) : fits (a + b) = !((decide (0 < b) && decide (9223372036854775807 - b < a)) || (decide (b < 0) && decide (a < -9223372036854775808 - b))) := by
  unfold isI at ha hb
  rw [Bool.eq_iff_iff]
  simp only [fits, Bool.and_eq_true, decide_eq_true_eq, Bool.not_eq_true', Bool.or_eq_false_iff, Bool.and_eq_false_iff, decide_eq_false_iff_not]
  omega
theorem fit_sub (a b : Int) (ha : isI a) (hb : isI b) : fits (a - b) = !((decide (b < 0) && decide (9223372036854775807 + b < a)) || (decide (0 < b) && decide (a < -9223372036854775808 + b))) := by
  unfold isI at ha hb
  rw [Bool.eq_iff_iff]
  simp only [fits, Bool.and_eq_true, decide_eq_true_eq, Bool.not_eq_true', Bool.or_eq_false_iff, Bool.and_eq_false_iff, decide_eq_false_iff_not]
  omega
theorem isI_isW {a : Int} (h : isI a) : isW a := by unfold isI at h; unfold isW; omega
theorem isW_add {a b : Int} (ha : isI a) (hb : isI b) : isW (a + b) := by unfold isI at ha hb; unfold isW; omega
theorem isW_sub {a b : Int} (ha : isI a) (hb : isI b) : isW (a - b) := by unfold isI at ha hb; unfold isW; omega
theorem isW_mul {a b : Int} (ha : isI a) (hb : isI b) : isW (a * b) := by
  unfold isI at ha hb
  have h1 : (a * b).natAbs ≤ 9223372036854775808 * 9223372036854775808 := by
    rw [Int.natAbs_mul]
    exact Nat.mul_le_mul (by omega) (by omega)
  unfold isW
  generalize a * b = z at *
  omega
theorem isI_of_wf {a : Int} (h : (Lit.int .i64 a).wf = true) : isI a := by
  have := Go.bounds_i64 h
  unfold isI
  omega
end Go.Proofs.Ytfdjnhnchibejaa
