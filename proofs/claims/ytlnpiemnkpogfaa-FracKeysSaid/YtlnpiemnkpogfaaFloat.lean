/- How floats of 64 bits lie, by their bits. Plain arithmetic over the given model of floats. -/
import Ieee.Arith
namespace Go.Proofs.Ytlnpiemnkpogfaa

/-- How large what a rung stands for is, in the least unit. -/
def rungv (r : Nat) : Nat := if r < 4503599627370496 then r else (4503599627370496 + r % 4503599627370496) * 2 ^ (r / 4503599627370496 - 1)
theorem rungv_lt {r s : Nat} (h : r < s) : rungv r < rungv s := by
  unfold rungv
  by_cases h1 : r < 4503599627370496
  · rw [if_pos h1]
    by_cases h2 : s < 4503599627370496
    · rw [if_pos h2]; exact h
    · rw [if_neg h2]
      have h3 : 1 ≤ 2 ^ (s / 4503599627370496 - 1) := Nat.one_le_two_pow
      have h4 := Nat.mul_le_mul_left (4503599627370496 + s % 4503599627370496) h3
      omega
  · rw [if_neg h1, if_neg (by omega)]
    have h5 : r / 4503599627370496 ≤ s / 4503599627370496 := Nat.div_le_div_right (by omega)
    by_cases h6 : r / 4503599627370496 = s / 4503599627370496
    · rw [h6]
      exact Nat.mul_lt_mul_of_pos_right (by omega) (Nat.two_pow_pos _)
    · have h7 : r / 4503599627370496 - 1 + 1 ≤ s / 4503599627370496 - 1 := by omega
      have h8 : 2 ^ (r / 4503599627370496 - 1) * 2 ≤ 2 ^ (s / 4503599627370496 - 1) := by
        rw [← Nat.pow_succ]; exact Nat.pow_le_pow_right (by omega) h7
      have h9 : 0 < 2 ^ (r / 4503599627370496 - 1) := Nat.two_pow_pos _
      generalize 2 ^ (r / 4503599627370496 - 1) = p at *
      generalize 2 ^ (s / 4503599627370496 - 1) = q at *
      have h10 : (4503599627370496 + r % 4503599627370496) * p < 9007199254740992 * p := Nat.mul_lt_mul_of_pos_right (by omega) h9
      have h11 : 4503599627370496 * q ≤ (4503599627370496 + s % 4503599627370496) * q := Nat.mul_le_mul_right _ (by omega)
      omega
theorem rungv_le {r s : Nat} (h : r ≤ s) : rungv r ≤ rungv s := by
  rcases Nat.lt_or_eq_of_le h with h | h
  · exact Nat.le_of_lt (rungv_lt h)
  · rw [h]; exact Nat.le_refl _
theorem rungv_inj {r s : Nat} (h : rungv r = rungv s) : r = s := by
  rcases Nat.lt_trichotomy r s with h1 | h1 | h1
  · have := rungv_lt h1; omega
  · exact h1
  · have := rungv_lt h1; omega
def negB (x : Nat) : Bool := x / 9223372036854775808 % 2 == 1
def rungB (x : Nat) : Nat := x % 9223372036854775808
def nanB (x : Nat) : Bool := decide (9218868437227405312 < rungB x)
def sgI (neg : Bool) (v : Nat) : Int := if neg then -(v : Int) else v
/-- Where a float that is a number lies. -/
def litI (x : Nat) : Int := sgI (negB x) (rungv (rungB x))

theorem dSign : Ieee.double.signWeight = 9223372036854775808 := by decide
theorem dBin : Ieee.double.binade = 4503599627370496 := by decide
theorem dInf : Ieee.double.infRung = 9218868437227405312 := by decide
theorem dLeast : Ieee.double.leastPlace = -1074 := by decide
theorem signed_sg (s : Bool) (m a : Nat) : Ieee.signed s m a = sgI s (m * 2 ^ a) := by
  unfold Ieee.signed sgI
  rw [Nat.shiftLeft_eq]
theorem read_fin (x : Nat) (h : rungB x < 9218868437227405312) : ∃ (m : Nat) (a : Nat), Ieee.double.read x = .number (negB x) m (-1074 + (a : Int)) ∧ m * 2 ^ a = rungv (rungB x) := by
  unfold Ieee.Format.read
  simp only [dSign, dBin, dInf, dLeast]
  unfold rungB at h ⊢
  by_cases h1 : x % 9223372036854775808 < 4503599627370496
  · rw [if_pos h1]
    exact ⟨_, 0, rfl, by unfold rungv; rw [if_pos h1]; omega⟩
  · rw [if_neg h1, if_pos h]
    exact ⟨_, _, rfl, by unfold rungv; rw [if_neg h1]⟩
theorem read_inf (x : Nat) (h : rungB x = 9218868437227405312) : Ieee.double.read x = .infinity (negB x) := by
  unfold Ieee.Format.read
  simp only [dSign, dBin, dInf, dLeast]
  unfold rungB at h
  rw [if_neg (by omega), if_neg (by omega), if_pos h]
  rfl
theorem read_nan (x : Nat) (h : 9218868437227405312 < rungB x) : ∃ f, Ieee.double.read x = .nan (negB x) f := by
  unfold Ieee.Format.read
  simp only [dSign, dBin, dInf, dLeast]
  unfold rungB at h
  rw [if_neg (by omega), if_neg (by omega), if_neg (by omega)]
  exact ⟨_, rfl⟩
theorem compare_mul (u v c : Int) (hc : 0 < c) : compare (u * c) (v * c) = compare u v := by
  rcases Int.lt_trichotomy u v with h | h | h
  · rw [Int.compare_eq_lt.2 h, Int.compare_eq_lt.2 (Int.mul_lt_mul_of_pos_right h hc)]
  · subst h; rw [Int.compare_eq_eq.2 rfl, Int.compare_eq_eq.2 rfl]
  · rw [Int.compare_eq_gt.2 h, Int.compare_eq_gt.2 (Int.mul_lt_mul_of_pos_right h hc)]
theorem sgI_mul (s : Bool) (m a b : Nat) : sgI s (m * 2 ^ a) * (2 ^ b : Nat) = sgI s (m * 2 ^ (a + b)) := by
  unfold sgI
  rw [Nat.pow_add, ← Nat.mul_assoc, Int.natCast_mul (m * 2 ^ a)]
  split
  · rw [Int.neg_mul]
  · rfl
/-- Two floats that are numbers lie to each other as what they stand for does. -/
theorem order_lit (x y : Nat) (hx : nanB x = false) (hy : nanB y = false) : Ieee.double.order x y = some (compare (litI x) (litI y)) := by
  unfold nanB at hx hy
  simp only [decide_eq_false_iff_not, Nat.not_lt] at hx hy
  unfold Ieee.Format.order litI
  rcases Nat.lt_or_eq_of_le hx with h1 | h1
  · obtain ⟨m, a, e1, e2⟩ := read_fin x h1
    rw [e1]
    rcases Nat.lt_or_eq_of_le hy with h2 | h2
    · obtain ⟨n, b, e3, e4⟩ := read_fin y h2
      rw [e3, ← e2, ← e4]
      simp only [Ieee.Datum.order, signed_sg]
      congr 1
      rcases Nat.le_total a b with h | h
      · have hm : min (-1074 + (a : Int)) (-1074 + (b : Int)) = -1074 + (a : Int) := by omega
        have hk : (-1074 + (b : Int) - (-1074 + (a : Int))).toNat = b - a := by omega
        rw [hm, hk, Int.sub_self, ← compare_mul _ _ (2 ^ a : Nat) (by have := Nat.two_pow_pos a; omega), sgI_mul, sgI_mul]
        congr 3
        · simp
        · rw [Nat.sub_add_cancel h]
      · have hm : min (-1074 + (a : Int)) (-1074 + (b : Int)) = -1074 + (b : Int) := by omega
        have hk : (-1074 + (a : Int) - (-1074 + (b : Int))).toNat = a - b := by omega
        rw [hm, hk, Int.sub_self, ← compare_mul _ _ (2 ^ b : Nat) (by have := Nat.two_pow_pos b; omega), sgI_mul, sgI_mul]
        congr 3
        · rw [Nat.sub_add_cancel h]
        · simp
    · rw [read_inf y h2]
      simp only [Ieee.Datum.order]
      have h3 : rungv (rungB x) < rungv (rungB y) := rungv_lt (by omega)
      clear e2
      generalize rungv (rungB x) = p at *
      generalize rungv (rungB y) = q at *
      congr 1
      unfold sgI
      cases negB y <;> cases negB x <;> simp <;> (symm; first | (apply Int.compare_eq_lt.2; omega) | (apply Int.compare_eq_gt.2; omega))
  · rw [read_inf x h1]
    rcases Nat.lt_or_eq_of_le hy with h2 | h2
    · obtain ⟨n, b, e3, e4⟩ := read_fin y h2
      rw [e3]
      simp only [Ieee.Datum.order]
      have h3 : rungv (rungB y) < rungv (rungB x) := rungv_lt (by omega)
      clear e4
      generalize rungv (rungB y) = p at *
      generalize rungv (rungB x) = q at *
      congr 1
      unfold sgI
      cases negB y <;> cases negB x <;> simp <;> (symm; first | (apply Int.compare_eq_lt.2; omega) | (apply Int.compare_eq_gt.2; omega))
    · rw [read_inf y h2]
      simp only [Ieee.Datum.order]
      have h3 : 0 < rungv (rungB x) := by
        have := @rungv_lt 0 (rungB x) (by omega)
        omega
      have h4 : rungB y = rungB x := by omega
      rw [h4]
      generalize rungv (rungB x) = q at *
      congr 1
      unfold sgI
      cases negB y <;> cases negB x <;> simp <;> (symm; first | (apply Int.compare_eq_lt.2; omega) | (apply Int.compare_eq_gt.2; omega) | (apply Int.compare_eq_eq.2; omega))
theorem order_nan (x y : Nat) (h : nanB x = true ∨ nanB y = true) : Ieee.double.order x y = none := by
  unfold nanB at h
  simp only [decide_eq_true_eq] at h
  unfold Ieee.Format.order
  rcases h with h | h
  · obtain ⟨f, e⟩ := read_nan x h
    rw [e]; rfl
  · obtain ⟨f, e⟩ := read_nan y h
    rw [e]
    cases Ieee.double.read x <;> rfl
theorem lit_zero : litI 0 = 0 := by decide +kernel
theorem lit_pos (x : Nat) (h : x < 9223372036854775808) : litI x = (rungv x : Nat) := by
  unfold litI negB rungB sgI
  have e1 : x / 9223372036854775808 = 0 := Nat.div_eq_of_lt h
  have e2 : x % 9223372036854775808 = x := Nat.mod_eq_of_lt h
  rw [e1, e2]
  simp
theorem lit_neg (x : Nat) (h : 9223372036854775808 ≤ x) (h' : x < 18446744073709551616) : litI x = -(rungv (x - 9223372036854775808) : Nat) := by
  unfold litI negB rungB sgI
  have e1 : x / 9223372036854775808 = 1 := by omega
  have e2 : x % 9223372036854775808 = x - 9223372036854775808 := by omega
  rw [e1, e2]
  simp
/-- The document's own nearest share, by bits. -/
def cleanB (b : Nat) : Nat :=
  if 9218868437227405312 < b % 9223372036854775808 then 4607182418800017408
  else if b ≠ b % 9223372036854775808 ∨ b % 9223372036854775808 = 0 then 0
  else if 4607182418800017408 ≤ b then 4607182418800017408 else b
theorem cleanB_le (b : Nat) : cleanB b ≤ 4607182418800017408 := by
  unfold cleanB
  (repeat' split) <;> omega
theorem cleanB_self {b : Nat} (h : b ≤ 4607182418800017408) : cleanB b = b := by
  unfold cleanB
  rw [Nat.mod_eq_of_lt (by omega)]
  (repeat' split) <;> omega
end Go.Proofs.Ytlnpiemnkpogfaa
