/- Division of 128 bits by 64, digit by digit of 32 bits; parts of counts. Plain arithmetic. -/
import Derived.WalkKit
namespace Go.Proofs.Ytlnpiemnkpogfaa

/-- One digit's guess: q is no less than the digit of (u*2^32 + d) / (a*2^32 + b), r what is left of u. -/
structure Digit (u d a b q r : Int) : Prop where
  q0 : 0 ≤ q
  rr : r = u - q * a
  r0 : 0 ≤ r
  up : u * 4294967296 + d < (q + 1) * (a * 4294967296 + b)

theorem digit_first {u d a b : Int} (hu0 : 0 ≤ u) (hd : d < 4294967296) (ha : 0 < a) (hb : 0 ≤ b) : Digit u d a b (u / a) (u % a) := by
  have h1 := Int.mul_ediv_add_emod u a
  have h2 := Int.emod_nonneg u (Int.ne_of_gt ha)
  have h3 := Int.emod_lt_of_pos u ha
  have h4 : 0 ≤ u / a := Int.ediv_nonneg hu0 (by omega)
  refine ⟨h4, ?_, h2, ?_⟩
  · have := Int.mul_comm a (u / a)
    omega
  · have e : (u / a + 1) * (a * 4294967296 + b) = (a * (u / a)) * 4294967296 + a * 4294967296 + (u / a + 1) * b := by
      rw [Int.mul_add, ← Int.mul_assoc, Int.add_mul (u / a) 1 a, Int.mul_comm (u / a) a, Int.one_mul, Int.add_mul]
    have h5 : 0 ≤ (u / a + 1) * b := Int.mul_nonneg (by omega) hb
    rw [e]
    omega
/-- The test holds just if the guess is too great. -/
theorem digit_over {u d a b q r : Int} (h : Digit u d a b q r) (hu : u < a * 4294967296 + b) (hd0 : 0 ≤ d) (hd : d < 4294967296) (hu0 : 0 ≤ u) (ha : 0 < a)
    (ht : 4294967296 ≤ q ∨ 4294967296 * r + d < q * b) : Digit u d a b (q - 1) (r + a) ∧ 1 ≤ q := by
  obtain ⟨h1, h2, h3, h4⟩ := h
  have e : q * (a * 4294967296 + b) = (q * a) * 4294967296 + q * b := by rw [Int.mul_add, Int.mul_assoc]
  have key : u * 4294967296 + d < q * (a * 4294967296 + b) := by
    rcases ht with ht | ht
    · have h5 : 4294967296 * (a * 4294967296 + b) ≤ q * (a * 4294967296 + b) := Int.mul_le_mul_of_nonneg_right ht (by omega)
      omega
    · rw [e]; omega
  have hq : 1 ≤ q := by
    rcases (by omega : q = 0 ∨ 1 ≤ q) with h | h
    · subst h; omega
    · exact h
  refine ⟨⟨by omega, ?_, by omega, ?_⟩, hq⟩
  · rw [Int.sub_mul]; omega
  · rw [show q - 1 + 1 = q by omega]; exact key
theorem digit_done {u d a b q r : Int} (h : Digit u d a b q r) (hq : q * b ≤ 4294967296 * r + d) :
    q * (a * 4294967296 + b) ≤ u * 4294967296 + d := by
  obtain ⟨h1, h2, h3, h4⟩ := h
  rw [show q * (a * 4294967296 + b) = (q * a) * 4294967296 + q * b by rw [Int.mul_add, Int.mul_assoc]]
  omega
theorem digit_break {u d a b q r : Int} (h : Digit u d a b q r) (hu : u < a * 4294967296 + b) (hd0 : 0 ≤ d) (ha : 0 < a) (hb0 : 0 ≤ b) (hb : b < 4294967296) (hr : 4294967296 ≤ r) :
    q * b ≤ 4294967296 * r + d := by
  obtain ⟨h1, h2, h3, h4⟩ := h
  have hq : q < 4294967296 := by
    rcases (by omega : q < 4294967296 ∨ 4294967296 ≤ q) with h | h
    · exact h
    · have := Int.mul_le_mul_of_nonneg_right h (by omega : 0 ≤ a)
      omega
  have h5 : q * b ≤ 4294967296 * b := Int.mul_le_mul_of_nonneg_right (by omega) hb0
  omega
theorem digit_quo {u d a b q r : Int} (h : Digit u d a b q r) (hq : q * b ≤ 4294967296 * r + d) :
    (u * 4294967296 + d) / (a * 4294967296 + b) = q := by
  have h1 := digit_done h hq
  have h2 := h.up
  generalize a * 4294967296 + b = y at *
  generalize u * 4294967296 + d = U at *
  have hy : 0 < y := by
    have := h.q0
    rcases (by omega : 0 < y ∨ y ≤ 0) with h | h
    · exact h
    · have e : (q + 1) * y = q * y + y := by rw [Int.add_mul, Int.one_mul]
      omega
  have h3 : q ≤ U / y := (Int.le_ediv_iff_mul_le hy).2 h1
  have h4 : U / y < q + 1 := Int.ediv_lt_of_lt_mul hy h2
  omega
theorem digit_q {u d a b q r : Int} (h : Digit u d a b q r) (hu : u < 18446744073709551616) (ha : 2147483648 ≤ a) : q ≤ 8589934592 := by
  obtain ⟨h1, h2, h3, h4⟩ := h
  rcases (by omega : q ≤ 8589934592 ∨ 8589934592 < q) with h | h
  · exact h
  · have := Int.mul_le_mul_of_nonneg_left ha h1
    omega
/-- Two digits make the quotient. -/
theorem digits_quo {u d e y : Int} (hy : 0 < y) :
    ((u * 4294967296 + d) * 4294967296 + e) / y = (u * 4294967296 + d) / y * 4294967296 + ((u * 4294967296 + d) % y * 4294967296 + e) / y := by
  have h := Int.mul_ediv_add_emod (u * 4294967296 + d) y
  generalize u * 4294967296 + d = U at *
  generalize U / y = q at *
  generalize U % y = r at *
  subst h
  rw [show (y * q + r) * 4294967296 + e = (r * 4294967296 + e) + y * (q * 4294967296) by rw [Int.add_mul, Int.mul_assoc]; omega, Int.add_mul_ediv_left _ _ (by omega)]
  omega

/-- The bits of n, the highest first. -/
def bitI (k : Nat) : Int := 4611686018427387904 / 2 ^ k
def headI (n : Int) (k : Nat) : Int := if k = 0 then 0 else n / bitI (k - 1)
theorem bitI_half : ∀ k < 62, bitI k = 2 * bitI (k + 1) := by decide +kernel
theorem bitI_next : ∀ k < 63, bitI k / 2 = bitI (k + 1) := by decide +kernel
theorem bitI_pos : ∀ k < 63, 0 < bitI k := by decide +kernel
theorem bitI_le : ∀ k < 64, bitI k ≤ 4611686018427387904 := by decide +kernel
theorem bitI_last : bitI 62 = 1 ∧ bitI 63 = 0 := by decide +kernel
theorem headI_next (n : Int) (h0 : 0 ≤ n) (h1 : n ≤ 4611686018427387904) (k : Nat) (hk : k < 63) : headI n (k + 1) = 2 * headI n k + n / bitI k % 2 := by
  unfold headI
  rw [if_neg (by omega), Nat.add_sub_cancel]
  by_cases h : k = 0
  · subst h
    rw [if_pos rfl]
    have : bitI 0 = 4611686018427387904 := by decide +kernel
    rw [this]
    omega
  · rw [if_neg h]
    have e := bitI_half (k - 1) (by omega)
    rw [show k - 1 + 1 = k by omega] at e
    rw [e, Int.mul_comm 2 (bitI k), ← Int.ediv_ediv_of_nonneg (by have := bitI_pos k hk; omega)]
    omega
theorem headI_le (n : Int) (h0 : 0 ≤ n) (k : Nat) (hk : k ≤ 63) : 0 ≤ headI n k ∧ headI n k ≤ n := by
  unfold headI
  split
  · omega
  · have := bitI_pos (k - 1) (by omega)
    exact ⟨Int.ediv_nonneg h0 (by omega), Int.ediv_le_self _ h0⟩
theorem headI_last (n : Int) : headI n 63 = n := by
  unfold headI
  rw [if_neg (by omega), show 63 - 1 = 62 by omega, bitI_last.1]
  omega
/-- How much of n as num is of den, rounded up. -/
def partI (n num den : Int) : Int := if den ≤ num then n else (n * num + (den - 1)) / den
theorem part_up {n num den q r : Int} (h : n * num = q * den + r) (h0 : 0 ≤ r) (h1 : r < den) : (n * num + (den - 1)) / den = if 0 < r then q + 1 else q := by
  rw [h]
  split
  · rw [show q * den + r + (den - 1) = (r - 1) + (q + 1) * den by rw [Int.add_mul]; omega, Int.add_mul_ediv_right _ _ (by omega), Int.ediv_eq_zero_of_lt (by omega) (by omega)]
    omega
  · rw [show q * den + r + (den - 1) = (den - 1) + q * den by omega, Int.add_mul_ediv_right _ _ (by omega), Int.ediv_eq_zero_of_lt (by omega) (by omega)]
    omega
theorem partI_s {n num den : Int} (hn : 0 ≤ n) (h0 : 0 ≤ num) : 0 ≤ partI n num den ∧ partI n num den ≤ n := by
  unfold partI
  split
  · omega
  · have hd : 0 < den := by omega
    have h1 := Int.mul_nonneg hn h0
    refine ⟨Int.ediv_nonneg (by omega) (by omega), ?_⟩
    have h2 : n * num ≤ n * (den - 1) := Int.mul_le_mul_of_nonneg_left (by omega) hn
    rw [Int.mul_sub, Int.mul_one] at h2
    by_cases hz : n = 0
    · subst hz
      rw [Int.zero_mul, Int.ediv_eq_zero_of_lt (by omega) (by omega)]
      omega
    · have h3 : (n * num + (den - 1)) / den < n + 1 := Int.ediv_lt_of_lt_mul hd (by rw [Int.add_mul, Int.one_mul]; omega)
      omega
/-- More of it is not less. -/
theorem partI_mono {n num num' den : Int} (hn : 0 ≤ n) (h0 : 0 ≤ num) (h : num ≤ num') (hd : 0 < den) : partI n num den ≤ partI n num' den := by
  unfold partI
  by_cases h1 : den ≤ num'
  · rw [if_pos h1]
    have := (partI_s (den := den) hn h0).2
    unfold partI at this
    exact this
  · rw [if_neg h1, if_neg (by omega)]
    have h2 := Int.mul_le_mul_of_nonneg_left h hn
    exact Int.ediv_le_ediv hd (by omega)
theorem partI_mono_n {n n' num den : Int} (h : n ≤ n') (h0 : 0 ≤ num) (hd : 0 < den) : partI n num den ≤ partI n' num den := by
  unfold partI
  split
  · exact h
  · have h2 := Int.mul_le_mul_of_nonneg_right h h0
    exact Int.ediv_le_ediv hd (by omega)
end Go.Proofs.Ytlnpiemnkpogfaa
