/- Layer 28: the rest of a share, one of two, all of them, by the program and by the document's own answer. No condition but that bits are 64. -/
import Derived.WalkKit
import Derived.Test.YtbglmcebkpkccaaDoorSat2
import Derived.IntWalk
import Derived.Laws.BitsAllLaws
import Derived.Test.YtbglmcebkpkccaaDoorQKA
import Derived.Laws.FloatArith

/- Division of 128 bits by 64, digit by digit of 32 bits; parts of counts. Plain arithmetic. -/
namespace Go.Proofs.YtbglmcebkpkccaaDoor

/-- One digit's guess: q is no less than the digit of (u*2^32 + d) / (a*2^32 + b), r what is left of u. -/
structure Digit (u d a b q r : Int) : Prop where
  q0 : 0 ≤ q
  rr : r = u - q * a
  r0 : 0 ≤ r
  up : u * 4294967296 + d < (q + 1) * (a * 4294967296 + b)

theorem digit_first {u d a b : Int} (hu0 : 0 ≤ u) (hd : d < 4294967296) (ha : 0 < a) (hb : 0 ≤ b) : Digit u d a b (u / a) (u % a) := by
  have h1 := Int.mul_ediv_add_emod u a
  have h2 := Int.emod_nonneg u (Int.ne_of_gt ha)
  have h3 := Int.emod_lt_of_pos u ha
  have h4 : 0 ≤ u / a := Int.ediv_nonneg hu0 (by omega)
  refine ⟨h4, ?_, h2, ?_⟩
  · have := Int.mul_comm a (u / a)
    omega
  · have e : (u / a + 1) * (a * 4294967296 + b) = (a * (u / a)) * 4294967296 + a * 4294967296 + (u / a + 1) * b := by
      rw [Int.mul_add, ← Int.mul_assoc, Int.add_mul (u / a) 1 a, Int.mul_comm (u / a) a, Int.one_mul, Int.add_mul]
    have h5 : 0 ≤ (u / a + 1) * b := Int.mul_nonneg (by omega) hb
    rw [e]
    omega
/-- The test holds just if the guess is too great. -/
theorem digit_over {u d a b q r : Int} (h : Digit u d a b q r) (hu : u < a * 4294967296 + b) (hd0 : 0 ≤ d) (hd : d < 4294967296) (hu0 : 0 ≤ u) (ha : 0 < a)
    (ht : 4294967296 ≤ q ∨ 4294967296 * r + d < q * b) : Digit u d a b (q - 1) (r + a) ∧ 1 ≤ q := by
  obtain ⟨h1, h2, h3, h4⟩ := h
  have e : q * (a * 4294967296 + b) = (q * a) * 4294967296 + q * b := by rw [Int.mul_add, Int.mul_assoc]
  have key : u * 4294967296 + d < q * (a * 4294967296 + b) := by
    rcases ht with ht | ht
    · have h5 : 4294967296 * (a * 4294967296 + b) ≤ q * (a * 4294967296 + b) := Int.mul_le_mul_of_nonneg_right ht (by omega)
      omega
    · rw [e]; omega
  have hq : 1 ≤ q := by
    rcases (by omega : q = 0 ∨ 1 ≤ q) with h | h
    · subst h; omega
    · exact h
  refine ⟨⟨by omega, ?_, by omega, ?_⟩, hq⟩
  · rw [Int.sub_mul]; omega
  · rw [show q - 1 + 1 = q by omega]; exact key
theorem digit_done {u d a b q r : Int} (h : Digit u d a b q r) (hq : q * b ≤ 4294967296 * r + d) :
    q * (a * 4294967296 + b) ≤ u * 4294967296 + d := by
  obtain ⟨h1, h2, h3, h4⟩ := h
  rw [show q * (a * 4294967296 + b) = (q * a) * 4294967296 + q * b by rw [Int.mul_add, Int.mul_assoc]]
  omega
theorem digit_break {u d a b q r : Int} (h : Digit u d a b q r) (hu : u < a * 4294967296 + b) (hd0 : 0 ≤ d) (ha : 0 < a) (hb0 : 0 ≤ b) (hb : b < 4294967296) (hr : 4294967296 ≤ r) :
    q * b ≤ 4294967296 * r + d := by
  obtain ⟨h1, h2, h3, h4⟩ := h
  have hq : q < 4294967296 := by
    rcases (by omega : q < 4294967296 ∨ 4294967296 ≤ q) with h | h
    · exact h
    · have := Int.mul_le_mul_of_nonneg_right h (by omega : 0 ≤ a)
      omega
  have h5 : q * b ≤ 4294967296 * b := Int.mul_le_mul_of_nonneg_right (by omega) hb0
  omega
theorem digit_quo {u d a b q r : Int} (h : Digit u d a b q r) (hq : q * b ≤ 4294967296 * r + d) :
    (u * 4294967296 + d) / (a * 4294967296 + b) = q := by
  have h1 := digit_done h hq
  have h2 := h.up
  generalize a * 4294967296 + b = y at *
  generalize u * 4294967296 + d = U at *
  have hy : 0 < y := by
    have := h.q0
    rcases (by omega : 0 < y ∨ y ≤ 0) with h | h
    · exact h
    · have e : (q + 1) * y = q * y + y := by rw [Int.add_mul, Int.one_mul]
      omega
  have h3 : q ≤ U / y := (Int.le_ediv_iff_mul_le hy).2 h1
  have h4 : U / y < q + 1 := Int.ediv_lt_of_lt_mul hy h2
  omega
theorem digit_q {u d a b q r : Int} (h : Digit u d a b q r) (hu : u < 18446744073709551616) (ha : 2147483648 ≤ a) : q ≤ 8589934592 := by
  obtain ⟨h1, h2, h3, h4⟩ := h
  rcases (by omega : q ≤ 8589934592 ∨ 8589934592 < q) with h | h
  · exact h
  · have := Int.mul_le_mul_of_nonneg_left ha h1
    omega
/-- Two digits make the quotient. -/
theorem digits_quo {u d e y : Int} (hy : 0 < y) :
    ((u * 4294967296 + d) * 4294967296 + e) / y = (u * 4294967296 + d) / y * 4294967296 + ((u * 4294967296 + d) % y * 4294967296 + e) / y := by
  have h := Int.mul_ediv_add_emod (u * 4294967296 + d) y
  generalize u * 4294967296 + d = U at *
  generalize U / y = q at *
  generalize U % y = r at *
  subst h
  rw [show (y * q + r) * 4294967296 + e = (r * 4294967296 + e) + y * (q * 4294967296) by rw [Int.add_mul, Int.mul_assoc]; omega, Int.add_mul_ediv_left _ _ (by omega)]
  omega

/-- The bits of n, the highest first. -/
def bitI (k : Nat) : Int := 4611686018427387904 / 2 ^ k
def headI (n : Int) (k : Nat) : Int := if k = 0 then 0 else n / bitI (k - 1)
theorem bitI_half : ∀ k < 62, bitI k = 2 * bitI (k + 1) := by decide +kernel
theorem bitI_next : ∀ k < 63, bitI k / 2 = bitI (k + 1) := by decide +kernel
theorem bitI_pos : ∀ k < 63, 0 < bitI k := by decide +kernel
theorem bitI_le : ∀ k < 64, bitI k ≤ 4611686018427387904 := by decide +kernel
theorem bitI_last : bitI 62 = 1 ∧ bitI 63 = 0 := by decide +kernel
theorem headI_next (n : Int) (h0 : 0 ≤ n) (h1 : n ≤ 4611686018427387904) (k : Nat) (hk : k < 63) : headI n (k + 1) = 2 * headI n k + n / bitI k % 2 := by
  unfold headI
  rw [if_neg (by omega), Nat.add_sub_cancel]
  by_cases h : k = 0
  · subst h
    rw [if_pos rfl]
    have : bitI 0 = 4611686018427387904 := by decide +kernel
    rw [this]
    omega
  · rw [if_neg h]
    have e := bitI_half (k - 1) (by omega)
    rw [show k - 1 + 1 = k by omega] at e
    rw [e, Int.mul_comm 2 (bitI k), ← Int.ediv_ediv_of_nonneg (by have := bitI_pos k hk; omega)]
    omega
theorem headI_le (n : Int) (h0 : 0 ≤ n) (k : Nat) (hk : k ≤ 63) : 0 ≤ headI n k ∧ headI n k ≤ n := by
  unfold headI
  split
  · omega
  · have := bitI_pos (k - 1) (by omega)
    exact ⟨Int.ediv_nonneg h0 (by omega), Int.ediv_le_self _ h0⟩
theorem headI_last (n : Int) : headI n 63 = n := by
  unfold headI
  rw [if_neg (by omega), show 63 - 1 = 62 by omega, bitI_last.1]
  omega
/-- How much of n as num is of den, rounded up. -/
def partI (n num den : Int) : Int := if den ≤ num then n else (n * num + (den - 1)) / den
theorem part_up {n num den q r : Int} (h : n * num = q * den + r) (h0 : 0 ≤ r) (h1 : r < den) : (n * num + (den - 1)) / den = if 0 < r then q + 1 else q := by
  rw [h]
  split
  · rw [show q * den + r + (den - 1) = (r - 1) + (q + 1) * den by rw [Int.add_mul]; omega, Int.add_mul_ediv_right _ _ (by omega), Int.ediv_eq_zero_of_lt (by omega) (by omega)]
    omega
  · rw [show q * den + r + (den - 1) = (den - 1) + q * den by omega, Int.add_mul_ediv_right _ _ (by omega), Int.ediv_eq_zero_of_lt (by omega) (by omega)]
    omega
theorem partI_s {n num den : Int} (hn : 0 ≤ n) (h0 : 0 ≤ num) : 0 ≤ partI n num den ∧ partI n num den ≤ n := by
  unfold partI
  split
  · omega
  · have hd : 0 < den := by omega
    have h1 := Int.mul_nonneg hn h0
    refine ⟨Int.ediv_nonneg (by omega) (by omega), ?_⟩
    have h2 : n * num ≤ n * (den - 1) := Int.mul_le_mul_of_nonneg_left (by omega) hn
    rw [Int.mul_sub, Int.mul_one] at h2
    by_cases hz : n = 0
    · subst hz
      rw [Int.zero_mul, Int.ediv_eq_zero_of_lt (by omega) (by omega)]
      omega
    · have h3 : (n * num + (den - 1)) / den < n + 1 := Int.ediv_lt_of_lt_mul hd (by rw [Int.add_mul, Int.one_mul]; omega)
      omega
/-- More of it is not less. -/
theorem partI_mono {n num num' den : Int} (hn : 0 ≤ n) (h0 : 0 ≤ num) (h : num ≤ num') (hd : 0 < den) : partI n num den ≤ partI n num' den := by
  unfold partI
  by_cases h1 : den ≤ num'
  · rw [if_pos h1]
    have := (partI_s (den := den) hn h0).2
    unfold partI at this
    exact this
  · rw [if_neg h1, if_neg (by omega)]
    have h2 := Int.mul_le_mul_of_nonneg_left h hn
    exact Int.ediv_le_ediv hd (by omega)
theorem partI_mono_n {n n' num den : Int} (h : n ≤ n') (h0 : 0 ≤ num) (hd : 0 < den) : partI n num den ≤ partI n' num den := by
  unfold partI
  split
  · exact h
  · have h2 := Int.mul_le_mul_of_nonneg_right h h0
    exact Int.ediv_le_ediv hd (by omega)
end Go.Proofs.YtbglmcebkpkccaaDoor

/- Layer 26: quotients of 128 bits, and parts of counts. -/
namespace Go.Proofs.YtbglmcebkpkccaaDoor
open Go.RowKit
attribute [local go_sem] more_cell more_frozen more_more more_setCell more_of_drew more_of_drewN lt_more le_more past_cell past_cell2 past_frozen past_frozen2 past_setCell past_setCell2 mid_cell mid_frozen mid_setCell
attribute [local go_sem ↓] Go.wp_at_zero Go.wp_at_succ

def QuoIs (q : Int) (w : World) (e : Ending) (w' : World) : Prop := ∃ r : Int, e = .returned (.tuple #[.int .u64 q, .int .u64 r]) ∧ w' = w
theorem und (x d q z : Int) (h : x * 4294967296 + d - z = q) (q0 : 0 ≤ q) (q1 : q < 18446744073709551616) : IntKind.u64.wrap (IntKind.u64.wrap (IntKind.u64.wrap (x * 4294967296) + d) - IntKind.u64.wrap z) = q := by
  simp only [IntKind.wrap_u64]
  omega
end Go.Proofs.YtbglmcebkpkccaaDoor

/- How many keys may pass a filter, as plain arithmetic; no less of more keys, no more of more words. -/
namespace Go.Proofs.YtbglmcebkpkccaaDoor

/-- How many of 2^16 bits are unset behind k steps. -/
def unsetI : Nat → Int
  | 0 => 65536
  | k + 1 => partI (unsetI k) 63 64
def passI (u : Int) : Nat → Int
  | 0 => 65536
  | k + 1 => partI (passI u k) (65536 - u) 65536
theorem unsetI_s (k : Nat) : 0 ≤ unsetI k ∧ unsetI k ≤ 65536 := by
  induction k with
  | zero => unfold unsetI; omega
  | succ k ih =>
    have := partI_s (n := unsetI k) (num := 63) (den := 64) ih.1 (by omega)
    show 0 ≤ partI (unsetI k) 63 64 ∧ partI (unsetI k) 63 64 ≤ 65536
    omega
theorem unsetI_down {j k : Nat} (h : j ≤ k) : unsetI k ≤ unsetI j := by
  induction k with
  | zero => obtain rfl : j = 0 := by omega
            exact Int.le_refl _
  | succ k ih =>
    rcases Nat.lt_or_eq_of_le h with h | rfl
    · have := ih (by omega)
      have h2 := (partI_s (n := unsetI k) (num := 63) (den := 64) (unsetI_s k).1 (by omega)).2
      show partI (unsetI k) 63 64 ≤ _
      omega
    · exact Int.le_refl _
theorem passI_s {u : Int} (h : u ≤ 65536) (k : Nat) : 0 ≤ passI u k ∧ passI u k ≤ 65536 := by
  induction k with
  | zero => unfold passI; omega
  | succ k ih =>
    have := partI_s (n := passI u k) (num := 65536 - u) (den := 65536) ih.1 (by omega)
    show 0 ≤ partI (passI u k) (65536 - u) 65536 ∧ partI (passI u k) (65536 - u) 65536 ≤ 65536
    omega
theorem passI_up {u v : Int} (h : v ≤ u) (hu : u ≤ 65536) (k : Nat) : passI u k ≤ passI v k := by
  induction k with
  | zero => exact Int.le_refl _
  | succ k ih =>
    have h1 := passI_s hu k
    have h3 := partI_mono (n := passI u k) (num := 65536 - u) (num' := 65536 - v) (den := 65536) h1.1 (by omega) (by omega) (by omega)
    have h4 := partI_mono_n (n := passI u k) (n' := passI v k) (num := 65536 - v) (den := 65536) ih (by omega) (by omega)
    show partI (passI u k) (65536 - u) 65536 ≤ partI (passI v k) (65536 - v) 65536
    omega
/-- A number from one to another. -/
def heldI (n low high : Int) : Int := if n < low then low else if high < n then high else n
theorem heldI_s {n low high : Int} (h : low ≤ high) : low ≤ heldI n low high ∧ heldI n low high ≤ high := by
  unfold heldI; (repeat' split) <;> omega
theorem heldI_up {n m low high : Int} (h : low ≤ high) (hn : n ≤ m) : heldI n low high ≤ heldI m low high := by
  unfold heldI; (repeat' split) <;> omega
/-- A quotient, rounded up. -/
def divI (x y : Int) : Int := if x = 0 then 0 else if y = 0 then 4611686018427387904 else (x - 1) / y + 1
theorem divI_up {x x' y : Int} (hx : 0 ≤ x) (h : x ≤ x') (hy : 0 < y) : divI x y ≤ divI x' y := by
  unfold divI
  rw [if_neg (Int.ne_of_gt hy), if_neg (Int.ne_of_gt hy)]
  by_cases h0 : x = 0
  · rw [if_pos h0]
    split
    · omega
    · have : 0 ≤ (x' - 1) / y := Int.ediv_nonneg (by omega) (by omega)
      omega
  · rw [if_neg h0, if_neg (by omega)]
    have := Int.ediv_le_ediv hy (by omega : x - 1 ≤ x' - 1)
    omega
theorem divI_down {x y y' : Int} (hx : 0 ≤ x) (h : y ≤ y') (hy : 0 < y) : divI x y' ≤ divI x y := by
  unfold divI
  rw [if_neg (by omega : ¬ y = 0), if_neg (by omega : ¬ y' = 0)]
  by_cases h0 : x = 0
  · rw [if_pos h0, if_pos h0]; omega
  · rw [if_neg h0, if_neg h0]
    have h1 : y * ((x - 1) / y') ≤ x - 1 := by
      have h2 : y' * ((x - 1) / y') ≤ x - 1 := Int.mul_ediv_self_le (by omega)
      have h3 : y * ((x - 1) / y') ≤ y' * ((x - 1) / y') := Int.mul_le_mul_of_nonneg_right h (Int.ediv_nonneg (by omega) (by omega))
      omega
    have : (x - 1) / y' ≤ (x - 1) / y := (Int.le_ediv_iff_mul_le hy).2 (by rw [Int.mul_comm]; exact h1)
    omega
theorem divI_s {x y : Int} (hx : 0 ≤ x) (hx' : x ≤ 4611686018427387904) (hy : 0 ≤ y) : 0 ≤ divI x y ∧ divI x y ≤ 4611686018427387904 := by
  unfold divI
  split
  · omega
  · split
    · omega
    · have h1 : 0 ≤ (x - 1) / y := Int.ediv_nonneg (by omega) (by omega)
      have h2 : (x - 1) / y ≤ x - 1 := Int.ediv_le_self _ (by omega)
      omega
/-- Of so many words (from 1 on), bits, and steps' product p. -/
def passOf (w b p : Int) : Int := passI (unsetI (heldI (divI p w) 0 1000).toNat) b.toNat
theorem passOf_s (w b p : Int) : 0 ≤ passOf w b p ∧ passOf w b p ≤ 65536 := passI_s (unsetI_s _).2 _
theorem passOf_up {w b p p' : Int} (hw : 0 < w) (hp : 0 ≤ p) (h : p ≤ p') : passOf w b p ≤ passOf w b p' := by
  unfold passOf
  refine passI_up (unsetI_down ?_) (unsetI_s _).2 _
  have := heldI_up (n := divI p w) (m := divI p' w) (low := 0) (high := 1000) (by omega) (divI_up hp h hw)
  omega
theorem passOf_down {w w' b p : Int} (hw : 0 < w) (hp : 0 ≤ p) (h : w ≤ w') : passOf w' b p ≤ passOf w b p := by
  unfold passOf
  refine passI_up (unsetI_down ?_) (unsetI_s _).2 _
  have := heldI_up (n := divI p w') (m := divI p w) (low := 0) (high := 1000) (by omega) (divI_down hp h hw)
  omega
end Go.Proofs.YtbglmcebkpkccaaDoor

/- Layer 26: quotients of 128 bits whatever they are, parts of counts, quotients and digits, by the program and by the document's own answer. -/
namespace Go.Proofs.YtbglmcebkpkccaaDoor
open Go.RowKit
attribute [local go_sem] more_cell more_frozen more_more more_setCell more_of_drew more_of_drewN lt_more le_more past_cell past_cell2 past_frozen past_frozen2 past_setCell past_setCell2 mid_cell mid_frozen mid_setCell
attribute [local go_sem ↓] Go.wp_at_zero Go.wp_at_succ

theorem bitLen_log (y : Nat) (h0 : y ≠ 0) (h1 : y < 18446744073709551616) : Lib.bitLen y = y.log2 + 1 := by
  have h2 : 2 ^ y.log2 ≤ y := Nat.log2_self_le h0
  have h3 : y < 2 ^ (y.log2 + 1) := Nat.lt_log2_self
  rw [Lib.bitLen_shift y.log2 y h2 h1]
  have h4 : y / 2 ^ y.log2 = 1 := by
    have a1 : 1 ≤ y / 2 ^ y.log2 := (Nat.le_div_iff_mul_le (Nat.two_pow_pos _)).2 (by omega)
    have a2 : y / 2 ^ y.log2 < 2 := (Nat.div_lt_iff_lt_mul (Nat.two_pow_pos _)).2 (by rw [Nat.pow_succ] at h3; omega)
    omega
  rw [h4]
  have : Lib.bitLen 1 = 1 := by decide
  rw [this]
theorem and_mask (x : Int) (h0 : 0 ≤ x) (h1 : x < 18446744073709551616) : bits .and .u64 x 4294967295 = x % 4294967296 := by
  rw [u64_and x 4294967295 h0 h1 (by omega) (by omega)]
  have : (4294967295 : Int).toNat = 2 ^ 32 - 1 := by decide
  rw [this, Nat.and_two_pow_sub_one_eq_mod]
  omega
theorem or_shift (x z : Int) (s : Nat) (h0 : 0 ≤ x) (h1 : x * 2 ^ s < 18446744073709551616) (z0 : 0 ≤ z) (z1 : z < 2 ^ s) (hs : s ≤ 63) : bits .or .u64 (x * 2 ^ s) z = x * 2 ^ s + z := by
  have hp : (0 : Int) < 2 ^ s := Int.pow_pos (by omega)
  have hx : 0 ≤ x * 2 ^ s := Int.mul_nonneg h0 (by omega)
  have hz : z < 18446744073709551616 := by
    have : (2 : Int) ^ s ≤ 9223372036854775808 := by
      have h : ((2 ^ s : Nat) : Int) ≤ ((9223372036854775808 : Nat) : Int) := Int.ofNat_le.2 (Nat.pow_le_pow_right (by omega : 0 < 2) hs)
      rw [Int.natCast_pow] at h
      exact h
    omega
  rw [u64_or _ _ hx h1 z0 hz]
  obtain ⟨X, rfl⟩ := Int.eq_ofNat_of_zero_le h0
  obtain ⟨Z, rfl⟩ := Int.eq_ofNat_of_zero_le z0
  have e1 : ((X : Int) * 2 ^ s).toNat = X <<< s := by
    rw [Nat.shiftLeft_eq]
    have : (X : Int) * 2 ^ s = ((X * 2 ^ s : Nat) : Int) := by push_cast; rfl
    rw [this, Int.toNat_natCast]
  have hZ : Z < 2 ^ s := by
    have h : (Z : Int) < ((2 ^ s : Nat) : Int) := by push_cast; exact z1
    exact Int.ofNat_lt.1 h
  rw [e1, Int.toNat_natCast, ← Nat.shiftLeft_add_eq_or_of_lt hZ, Nat.shiftLeft_eq]
  push_cast
  rfl
theorem ediv_lt {a b c : Int} (hb : 0 < b) (h : a < c * b) : a / b < c := Int.ediv_lt_of_lt_mul hb h
/-- A quotient of 128 bits by 64. -/
def QuoG (q : Int) (w : World) (e : Ending) (w' : World) : Prop := ∃ r : Int, e = .returned (.tuple #[.int .u64 q, .int .u64 r]) ∧ Grew w w'
end Go.Proofs.YtbglmcebkpkccaaDoor

/- Layer 26: parts of counts, quotients and digits, by the program and by the document's own answer. -/
namespace Go.Proofs.YtbglmcebkpkccaaDoor
open Go.RowKit
attribute [local go_sem] more_cell more_frozen more_more more_setCell more_of_drew more_of_drewN lt_more le_more past_cell past_cell2 past_frozen past_frozen2 past_setCell past_setCell2 mid_cell mid_frozen mid_setCell
attribute [local go_sem ↓] Go.wp_at_zero Go.wp_at_succ

theorem mul64_p (x y p : Int) (x0 : 0 ≤ x) (x1 : x < 18446744073709551616) (y0 : 0 ≤ y) (y1 : y < 18446744073709551616) (hp : x * y = p) (w : World) : Calls Tryd.prog 72 #[.int .u64 x, .int .u64 y] w fun e w' => e = .returned (.tuple #[.int .u64 (p / 18446744073709551616), .int .u64 (p % 18446744073709551616)]) ∧ w' = w := by
  rw [← hp]
  exact mul64_int x y x0 x1 y0 y1 w
/-- The document's own: digit by digit. -/
def PartAt (n num den : Int) (bit quo rem : Value) : Prop :=
  ∃ (k : Nat) (q r : Int), k ≤ 63 ∧ bit = .int .i64 (bitI k) ∧ quo = .int .i64 q ∧ rem = .int .i64 r ∧ 0 ≤ q ∧ q ≤ headI n k ∧ 0 ≤ r ∧ r < den ∧ headI n k * num = q * den + r
theorem step_part {N num den q r b : Int} (h : N * num = q * den + r) : (2 * N + b) * num = 2 * q * den + (2 * r + b * num) := by
  have e : (2 * N + b) * num = 2 * (N * num) + b * num := by rw [Int.add_mul, Int.mul_assoc]
  rw [e, h, Int.mul_assoc]
  omega
theorem quo_le {q z r N y : Int} (h : q * z + r = N * y) (hr : 0 ≤ r) (hy : y < z) (hN : 0 ≤ N) (h0 : 0 ≤ y) : q ≤ N := by
  rcases (by omega : q ≤ N ∨ N + 1 ≤ q) with h1 | h1
  · exact h1
  · have h2 := Int.mul_le_mul_of_nonneg_right h1 (by omega : 0 ≤ z)
    have h3 := Int.mul_le_mul_of_nonneg_left (by omega : y ≤ z) hN
    rw [Int.add_mul] at h2
    omega
theorem one_mul_up (q den : Int) : (q + 1) * den = q * den + den := by rw [Int.add_mul, Int.one_mul]
/-- How many digits. -/
def digI (n : Int) : Int := (Lib.bitLen n.toNat : Int)
theorem dig_half (n : Int) (h0 : 0 < n) (h1 : n ≤ 4611686018427387904) : digI n = 1 + digI (n / 2) := by
  unfold digI
  rw [Lib.bitLen_half n.toNat (by omega) (by omega)]
  have : (n / 2).toNat = n.toNat / 2 := by omega
  rw [this]
  push_cast
  rfl
theorem dig_zero : digI 0 = 0 := by decide
def BitsAt (R : Int) (x k : Value) : Prop := ∃ n c : Int, 0 ≤ n ∧ n ≤ 4611686018427387904 ∧ x = .int .i64 n ∧ k = .int .i64 c ∧ 0 ≤ c ∧ c + n ≤ 4611686018427387904 ∧ c + digI n = R
end Go.Proofs.YtbglmcebkpkccaaDoor

/- Layer 29: how many keys may pass a filter, how many rows it drops, by the program and by the document's own answer. No condition. -/
namespace Go.Proofs.YtbglmcebkpkccaaDoor
open Go.RowKit
attribute [local go_sem] more_cell more_frozen more_more more_setCell more_of_drew more_of_drewN lt_more le_more past_cell past_cell2 past_frozen past_frozen2 past_setCell past_setCell2 mid_cell mid_frozen mid_setCell
attribute [local go_sem ↓] Go.wp_at_zero Go.wp_at_succ

/-- Of 2^16 keys, those that may pass. -/
def passN (words bits keys : Int) : Int := passOf (heldI words 1 4096) (heldI bits 1 5) (timesI (heldI bits 1 5) (cutI keys))
def gainN (rows pass : Int) : Int := cutI rows - partI (cutI rows) (cutI pass) 65536
theorem gainN_s (rows pass : Int) : 0 ≤ gainN rows pass ∧ gainN rows pass ≤ cutI rows := by
  have := partI_s (n := cutI rows) (num := cutI pass) (den := 65536) (cutI_s rows).1 (cutI_s pass).1
  unfold gainN
  omega
theorem heldI_minmax (n lo hi : Int) (h : lo ≤ hi) : min hi (max lo n) = heldI n lo hi := by
  unfold heldI
  (repeat' split) <;> omega
theorem foldM_two (a b : Int) (h : 0 ≤ a) (h' : a ≤ 4611686018427387904) : foldM [a, b] 1 = timesI a (cutI b) := by
  show timesI (timesI 1 (cutI a)) (cutI b) = _
  rw [cutI_self ⟨h, h'⟩]
  have : timesI 1 a = a := by unfold timesI; rw [Int.one_mul, if_neg (by omega)]
  rw [this]
theorem divI_cut {x y : Int} (h : sI x) (h' : sI y) : divI (cutI x) (cutI y) = divI x y := by rw [cutI_self h, cutI_self h']
def PassAt1 (w wr : World) (m : Nat) (u i : Value) : Prop := ∃ k : Nat, k ≤ m ∧ i = .int .i64 k ∧ u = .int .i64 (unsetI k) ∧ Grew w wr
def PassAt2 (w wr : World) (m : Nat) (x : Int) (p i : Value) : Prop := ∃ k : Nat, k ≤ m ∧ i = .int .i64 k ∧ p = .int .i64 (passI x k) ∧ Grew w wr
theorem unset_next (k : Nat) : partI (cutI (unsetI k)) (cutI 63) (cutI 64) = unsetI (k + 1) := by
  have := unsetI_s k
  rw [cutI_self (n := unsetI k) ⟨by omega, by omega⟩]
  have e1 : cutI 63 = 63 := by decide
  have e2 : cutI 64 = 64 := by decide
  rw [e1, e2]
  rfl
theorem pass_next (u : Int) (h0 : 0 ≤ u) (h : u ≤ 65536) (k : Nat) : partI (cutI (passI u k)) (cutI (65536 - u)) (cutI 65536) = passI u (k + 1) := by
  have := passI_s h k
  rw [cutI_self (n := passI u k) ⟨by omega, by omega⟩, cutI_self (n := 65536 - u) ⟨by omega, by omega⟩]
  have e1 : cutI 65536 = 65536 := by decide
  rw [e1]
  rfl
theorem mul_two (a b r : Int) (w : World) (A : Option Addr) (hr : Row w A [.int .i64 a, .int .i64 b]) (h : foldM [a, b] 1 = r) :
    Calls Tryd.prog 37 #[.slice A 2 2] w fun e w' => e = .returned (.int .i64 r) ∧ w' = w := by
  rw [← h]
  exact mul_any [a, b] A 2 (by show 2 ≤ 1000000; omega) w hr
theorem row_two (W : World) (B : Nat) (a b : Int) (hB : B = W.heap.size) : Row (W.alloc (.cells #[.int .i64 a, .int .i64 b] 3)) (some ⟨B, 0, none⟩) [.int .i64 a, .int .i64 b] := row_of W B [a, b] hB _ rfl
theorem unset_step (k : Nat) : (unsetI k * 63 + 63) / 64 = unsetI (k + 1) := by
  show _ = partI (unsetI k) 63 64
  unfold partI
  rw [if_neg (by omega)]
  rfl
theorem pass_step (u : Int) (h0 : 0 ≤ u) (k : Nat) : (passI u k * (65536 - u) + 65535) / 65536 = passI u (k + 1) := by
  show _ = partI (passI u k) (65536 - u) 65536
  unfold partI
  split
  · obtain rfl : u = 0 := by omega
    omega
  · rfl
def RPassAt1 (m : Nat) (u i : Value) : Prop := ∃ k : Nat, k ≤ m ∧ i = .int .i64 k ∧ u = .int .i64 (unsetI k)
def RPassAt2 (m : Nat) (x : Int) (p i : Value) : Prop := ∃ k : Nat, k ≤ m ∧ i = .int .i64 k ∧ p = .int .i64 (passI x k)
def worthB (rows pass : Int) : Bool := decide (cutI rows < timesI 4 (gainN rows pass))
theorem passN_s (words bits keys : Int) : 0 ≤ passN words bits keys ∧ passN words bits keys ≤ 65536 := passOf_s _ _ _
theorem cutI_up {a b : Int} (h : a ≤ b) : cutI a ≤ cutI b := by unfold cutI; (repeat' split) <;> omega
theorem timesI_up {x y y' : Int} (hx : 0 ≤ x) (h : y ≤ y') : timesI x y ≤ timesI x y' := by
  have := Int.mul_le_mul_of_nonneg_left h hx
  unfold timesI
  (repeat' split) <;> omega
theorem passN_up {words bits keys more : Int} (h : keys ≤ more) : passN words bits keys ≤ passN words bits more := by
  have hw := heldI_s (n := words) (low := 1) (high := 4096) (by omega)
  have hb := heldI_s (n := bits) (low := 1) (high := 5) (by omega)
  exact passOf_up (by omega) (timesI_s (x := heldI bits 1 5) ⟨by omega, by omega⟩ (cutI_s keys)).1 (timesI_up (by omega) (cutI_up h))
theorem passN_down {words bits keys more : Int} (h : words ≤ more) : passN more bits keys ≤ passN words bits keys := by
  have hw := heldI_s (n := words) (low := 1) (high := 4096) (by omega)
  have hb := heldI_s (n := bits) (low := 1) (high := 5) (by omega)
  exact passOf_down (by omega) (timesI_s (x := heldI bits 1 5) ⟨by omega, by omega⟩ (cutI_s keys)).1 (heldI_up (by omega) h)
theorem gainN_down {rows pass more : Int} (h : pass ≤ more) : gainN rows more ≤ gainN rows pass := by
  have := partI_mono (n := cutI rows) (num := cutI pass) (num' := cutI more) (den := 65536) (cutI_s rows).1 (cutI_s pass).1 (cutI_up h) (by omega)
  unfold gainN
  omega
end Go.Proofs.YtbglmcebkpkccaaDoor

/- Layer 28: the nearest share of a float, and how floats lie, by the program and by the document's own answer. No condition but that bits are 64. -/
namespace Go.Proofs.YtbglmcebkpkccaaDoor
open Go.RowKit
attribute [local go_sem] more_cell more_frozen more_more more_setCell more_of_drew more_of_drewN lt_more le_more past_cell past_cell2 past_frozen past_frozen2 past_setCell past_setCell2 mid_cell mid_frozen mid_setCell
attribute [local go_sem ↓] Go.wp_at_zero Go.wp_at_succ

theorem ord_self (x : Nat) (h : nanB x = false) : FloatKind.f64.format.order x x = some .eq := by
  show Ieee.double.order x x = _
  rw [order_lit x x h h, Int.compare_eq_eq.2 rfl]
theorem ord_nan (x y : Nat) (h : nanB x = true ∨ nanB y = true) : FloatKind.f64.format.order x y = none := order_nan x y h
theorem nan_not {x : Nat} (h : x ≤ 9218868437227405312) : nanB x = false := by
  unfold nanB rungB
  rw [decide_eq_false_iff_not]
  omega
theorem ord_pos {x y : Nat} (hx : x ≤ 9218868437227405312) (hy : y ≤ 9218868437227405312) : FloatKind.f64.format.order x y = some (compare x y) := by
  show Ieee.double.order x y = _
  rw [order_lit x y (nan_not hx) (nan_not hy), lit_pos x (by omega), lit_pos y (by omega)]
  refine congrArg some ?_
  rcases Nat.lt_trichotomy x y with h | h | h
  · rw [Nat.compare_eq_lt.2 h, Int.compare_eq_lt.2 (by have := rungv_lt h; omega)]
  · subst h
    rw [Nat.compare_eq_eq.2 rfl, Int.compare_eq_eq.2 rfl]
  · rw [Nat.compare_eq_gt.2 h, Int.compare_eq_gt.2 (by have := rungv_lt h; omega)]
theorem ord_neg {x y : Nat} (hx : 9223372036854775808 < x) (hx' : x ≤ 18442240474082181120) (hy : y ≤ 9218868437227405312) : FloatKind.f64.format.order x y = some .lt := by
  show Ieee.double.order x y = _
  rw [order_lit x y (by unfold nanB rungB; rw [decide_eq_false_iff_not]; omega) (nan_not hy), lit_pos y (by omega), lit_neg x (by omega) (by omega)]
  refine congrArg some ?_
  refine Int.compare_eq_lt.2 ?_
  have := @rungv_lt 0 (x - 9223372036854775808) (by omega)
  omega
theorem ord_mzero {y : Nat} (hy : y ≤ 9218868437227405312) : FloatKind.f64.format.order 9223372036854775808 y = some (compare 0 y) := by
  show Ieee.double.order 9223372036854775808 y = _
  have h0 : rungv 0 = 0 := rfl
  rw [order_lit _ y (by decide) (nan_not hy), lit_pos y (by omega), lit_neg 9223372036854775808 (by omega) (by omega), Nat.sub_self, h0]
  refine congrArg some ?_
  rcases Nat.eq_zero_or_pos y with h | h
  · subst h; rfl
  · rw [Nat.compare_eq_lt.2 h]
    refine Int.compare_eq_lt.2 ?_
    have := @rungv_lt 0 y h
    omega
def oneB : Nat := 4607182418800017408
theorem cmp_lt {x y : Nat} (h : x < y) : compare x y = .lt := Nat.compare_eq_lt.2 h
theorem cmp_gt {x y : Nat} (h : y < x) : compare x y = .gt := Nat.compare_eq_gt.2 h
theorem isnan_any (x : Nat) (b : Bool) (h : nanB x = b) (w : World) : Calls Tryd.prog 71 #[.float .f64 x] w fun e w' => e = .returned (.bool b) ∧ w' = w := by
  cases b with
  | true =>
    have ho := ord_nan x x (Or.inl h)
    go_enter Tryd.func71, Tryd.ntmps71
    go_wp2
    go_ret
    exact ⟨rfl, rfl⟩
  | false =>
    have ho := ord_self x h
    go_enter Tryd.func71, Tryd.ntmps71
    go_wp2
    go_ret
    exact ⟨rfl, rfl⟩
theorem ret_f64 {a b : Nat} (h : a = b) : Ending.returned (.float .f64 a) = .returned (.float .f64 b) := by rw [h]
theorem clean_any (x : Nat) (hx : x < 18446744073709551616) (w : World) : Calls Tryd.prog 51 #[.float .f64 x] w fun e w' => e = .returned (.float .f64 (cleanB x)) ∧ w' = w := by
  cases hn : nanB x with
  | true =>
    have hc : cleanB x = 4607182418800017408 := by
      unfold nanB rungB at hn
      rw [decide_eq_true_eq] at hn
      unfold cleanB
      rw [if_pos hn]
    rw [hc]
    have HN := Lib.hid hn
    clear hn hc
    go_enter Tryd.func51, Tryd.ntmps51
    go_wp2_with (go_at_call 71; refine (isnan_any _ _ HN.out _).mono ?_; rintro e w' ⟨rfl, rfl⟩)
    go_ret
    exact ⟨rfl, rfl⟩
  | false =>
    have hr : x % 9223372036854775808 ≤ 9218868437227405312 := by
      unfold nanB rungB at hn
      rw [decide_eq_false_iff_not] at hn
      omega
    have HN := Lib.hid hn
    clear hn
    rcases (by omega : 4607182418800017408 < x ∧ x < 9223372036854775808 ∨ x = 0 ∨ 9223372036854775808 < x ∨ x = 9223372036854775808 ∨ 0 < x ∧ x ≤ 4607182418800017408) with ⟨h1, h2⟩ | rfl | h1 | rfl | ⟨h1, h2⟩
    · have hc : cleanB x = 4607182418800017408 := by unfold cleanB; rw [if_neg (by omega), if_neg (by omega), if_pos (by omega)]
      rw [hc]
      have ho := ord_pos (x := x) (y := 4607182418800017408) (by omega) (by omega)
      rw [cmp_gt (by omega)] at ho
      clear hc h1 h2 hr
      go_enter Tryd.func51, Tryd.ntmps51
      go_wp2_with (go_at_call 71; refine (isnan_any _ _ HN.out _).mono ?_; rintro e w' ⟨rfl, rfl⟩)
      go_ret
      exact ⟨rfl, rfl⟩
    · have ho : FloatKind.f64.format.order 0 4607182418800017408 = some .lt := by rw [ord_pos (by omega) (by omega), cmp_lt (by omega)]
      have hz : FloatKind.f64.format.order 0 0 = some .eq := ord_self 0 (by decide)
      go_enter Tryd.func51, Tryd.ntmps51
      go_wp2_with (go_at_call 71; refine (isnan_any _ _ HN.out _).mono ?_; rintro e w' ⟨rfl, rfl⟩)
      go_ret
      exact ⟨rfl, rfl⟩
    · have hc : cleanB x = 0 := by unfold cleanB; rw [if_neg (by omega), if_pos (by omega)]
      rw [hc]
      have ho := ord_neg (x := x) (y := 4607182418800017408) (by omega) (by omega) (by omega)
      have hz := ord_neg (x := x) (y := 0) (by omega) (by omega) (by omega)
      clear hc h1 hr
      go_enter Tryd.func51, Tryd.ntmps51
      go_wp2_with (go_at_call 71; refine (isnan_any _ _ HN.out _).mono ?_; rintro e w' ⟨rfl, rfl⟩)
      go_ret
      exact ⟨rfl, rfl⟩
    · have ho : FloatKind.f64.format.order 9223372036854775808 4607182418800017408 = some .lt := by rw [ord_mzero (by omega), cmp_lt (by omega)]
      have hz : FloatKind.f64.format.order 9223372036854775808 0 = some .eq := by rw [ord_mzero (by omega)]; rfl
      go_enter Tryd.func51, Tryd.ntmps51
      go_wp2_with (go_at_call 71; refine (isnan_any _ _ HN.out _).mono ?_; rintro e w' ⟨rfl, rfl⟩)
      go_ret
      exact ⟨rfl, rfl⟩
    · have hc : cleanB x = x := cleanB_self h2
      rw [hc]
      have hz := ord_pos (x := x) (y := 0) (by omega) (by omega)
      rw [cmp_gt (by omega)] at hz
      have ho : FloatKind.f64.format.order x 4607182418800017408 = some .lt ∨ FloatKind.f64.format.order x 4607182418800017408 = some .eq := by
        rw [ord_pos (by omega) (by omega)]
        rcases Nat.lt_or_eq_of_le h2 with h | h
        · left; rw [cmp_lt h]
        · right; rw [h]; rfl
      clear hc h1 h2 hr
      rcases ho with ho | ho
      all_goals
        go_enter Tryd.func51, Tryd.ntmps51
        go_wp2_with (go_at_call 71; refine (isnan_any _ _ HN.out _).mono ?_; rintro e w' ⟨rfl, rfl⟩)
        go_ret
        exact ⟨rfl, rfl⟩
end Go.Proofs.YtbglmcebkpkccaaDoor

/- Layer 28: the nearest share by the document's own answer; quotients of integers. No condition but that bits are 64. -/
namespace Go.Proofs.YtbglmcebkpkccaaDoor
open Go.RowKit
attribute [local go_sem] more_cell more_frozen more_more more_setCell more_of_drew more_of_drewN lt_more le_more past_cell past_cell2 past_frozen past_frozen2 past_setCell past_setCell2 mid_cell mid_frozen mid_setCell
attribute [local go_sem ↓] Go.wp_at_zero Go.wp_at_succ

theorem Gives.calls {P : Program} {f : FuncId} {args : Array Value} {w : World} {v : Value} (h : Gives P f args w v) : Calls P f args w fun e w' => e = .returned v ∧ ∃ x, w' = more w x := h
theorem fbits_run (x : Nat) (W : World) : (callFunc 97 #[.float .f64 x]).run Tryd.prog W = .ok (.value (.int .u64 x)) W := by
  rw [run_callFunc_extern Tryd.func97 (by kernel_rfl) (by kernel_rfl) (by kernel_rfl) (e := Extern.MathFloatBits.float64bits) (by kernel_rfl)]
  rfl
theorem float_int (n : Int) : floatOfInt .f64 n = intB n := nearest_word _ _ _
def isI64 (n : Int) : Prop := -9223372036854775808 ≤ n ∧ n ≤ 9223372036854775807
theorem quo_run (x y r : Nat) (h : Ieee.double.div x y = some r) (W : World) : (binOp .quo 82 (.float .f64 x) (.float .f64 y)).run Tryd.prog W = .ok (.float .f64 r) W :=
  run_float_arith W .quo _ .f64 x y r h
/-- A quotient that is no number: which one, is left open. -/
def anyNan (W : World) : Nat := (Question.nanBits .f64 (intB 0) (intB 0)).cut (W.tape W.drawn (Question.nanBits .f64 (intB 0) (intB 0)))
theorem anyNan_nan (W : World) : anyNan W < 18446744073709551616 ∧ cleanB (anyNan W) = 4607182418800017408 := by
  unfold anyNan
  simp only [Question.cut]
  generalize W.tape W.drawn (Question.nanBits .f64 (intB 0) (intB 0)) = t
  have hu : t % 2 = 0 ∨ t % 2 = 1 := by omega
  have hv : t / 2 % (2 ^ 52 - 1) < 4503599627370495 := Nat.mod_lt _ (by decide)
  generalize t % 2 = u at *
  generalize t / 2 % (2 ^ 52 - 1) = v at *
  constructor
  · rcases hu with rfl | rfl <;> omega
  · unfold cleanB
    rw [if_pos (by rcases hu with rfl | rfl <;> omega)]
theorem quo_nan (W : World) : (binOp .quo 82 (.float .f64 (intB 0)) (.float .f64 (intB 0))).run Tryd.prog W = .ok (.float .f64 (anyNan W)) W.drew := by
  have h : FloatKind.f64.format.div (intB 0) (intB 0) = none := div_nan
  simp [binOp, Op.floatArith, h, anyNan, Question.forced]
theorem clean_to (x y : Nat) (hx : x < 18446744073709551616) (h : cleanB x = y) (w : World) : Calls Tryd.prog 51 #[.float .f64 x] w fun e w' => e = .returned (.float .f64 y) ∧ w' = w := by
  rw [← h]
  exact clean_any x hx w
theorem fof_any (a b : Int) (ha : isI64 a) (hb : isI64 b) (w : World) : Gives Tryd.prog 67 #[.int .i64 a, .int .i64 b] w (.float .f64 (ofB a b)) := by
  unfold isI64 at ha hb
  have fa := float_int a
  have fb := float_int b
  by_cases h : b = 0
  · subst h
    by_cases h0 : a = 0
    · subst h0
      have hr : ofB 0 0 = 4607182418800017408 := rfl
      rw [hr]
      have hq := quo_nan
      unfold Gives
      clear hr
      go_enter Tryd.func67, Tryd.ntmps67
      go_wp2_with (go_at_call 51; refine (clean_to _ _ (anyNan_nan _).1 (anyNan_nan _).2 _).mono ?_; rintro e w' ⟨rfl, rfl⟩)
      go_ret
      exact ⟨rfl, by (show Grew _ _; repeat (first | exact Grew.refl _ | refine Grew.alloc ?_ _ | refine Grew.drew ?_ | refine Grew.more ?_ _))⟩
    · have hd := div_inf a (by omega) h0
      obtain ⟨r, hrr⟩ : ∃ r, Ieee.double.word (decide (a < 0)) 9218868437227405312 = r := ⟨_, rfl⟩
      have hw : r < 18446744073709551616 := by rw [← hrr, word_val]; split <;> omega
      have hc : cleanB r = ofB a 0 := by
        rw [← hrr, clean_word _ _ (by omega)]
        unfold ofB
        rw [if_pos rfl]
        by_cases hn : a < 0
        · rw [decide_eq_true hn, if_pos hn]; rfl
        · rw [decide_eq_false hn, if_neg hn]; rfl
      rw [hrr] at hd
      have HC := Lib.hid hc
      have hq := quo_run _ _ _ hd
      clear hd hc hrr
      generalize ofB a 0 = R at *
      generalize intB a = x at *
      generalize intB 0 = y at *
      unfold Gives
      go_enter Tryd.func67, Tryd.ntmps67
      go_wp2_with (go_at_call 51; refine (clean_to _ _ hw HC.out _).mono ?_; rintro e w' ⟨rfl, rfl⟩)
      go_ret
      exact ⟨rfl, by (show Grew _ _; repeat (first | exact Grew.refl _ | refine Grew.alloc ?_ _ | refine Grew.drew ?_ | refine Grew.more ?_ _))⟩
  · obtain ⟨r, h1, _, h3⟩ := div_some a b (by omega) (by omega) h
    obtain ⟨q, hq0⟩ : ∃ q, Ieee.double.word (decide (a < 0) ^^ decide (b < 0)) r = q := ⟨_, rfl⟩
    have hw : q < 18446744073709551616 := by rw [← hq0, word_val]; split <;> omega
    rw [hq0] at h3
    have hc : cleanB q = ofB a b := by
      unfold ofB
      rw [if_neg h, h3]
      rfl
    have HC := Lib.hid hc
    have hq := quo_run _ _ _ h3
    clear h3 hc hq0
    generalize ofB a b = R at *
    generalize intB a = x at *
    generalize intB b = y at *
    unfold Gives
    go_enter Tryd.func67, Tryd.ntmps67
    go_wp2_with (go_at_call 51; refine (clean_to _ _ hw HC.out _).mono ?_; rintro e w' ⟨rfl, rfl⟩)
    go_ret
    exact ⟨rfl, by (show Grew _ _; repeat (first | exact Grew.refl _ | refine Grew.alloc ?_ _ | refine Grew.drew ?_ | refine Grew.more ?_ _))⟩
end Go.Proofs.YtbglmcebkpkccaaDoor

/- Layer 28: parts of counts by shares, by the program and by the document's own answer; its example. No condition but that bits are 64. -/
namespace Go.Proofs.YtbglmcebkpkccaaDoor
open Go.RowKit
attribute [local go_sem] more_cell more_frozen more_more more_setCell more_of_drew more_of_drewN lt_more le_more past_cell past_cell2 past_frozen past_frozen2 past_setCell past_setCell2 mid_cell mid_frozen mid_setCell
attribute [local go_sem ↓] Go.wp_at_zero Go.wp_at_succ

attribute [local irreducible] FloatKind.decode in
theorem integral_num (nm : String) (way : Ieee.Toward) (r : Nat) (s : Bool) (m : Nat) (i : Int) (hd : FloatKind.f64.decode r = .number s m i) :
    Extern.MathFloor.toIntegral nm way #[.float .f64 r] = pure (.float .f64 (FloatKind.f64.encode (Ieee.Datum.integral way (.number s m i)))) := by
  conv => lhs; whnf
  rw [hd]
theorem arch_run (r : Nat) (h : r < 9218868437227405312) (W : World) : (callFunc 69 #[.float .f64 r]).run Tryd.prog W = .ok (.value (.float .f64 (rndR (ceilR r) 0))) W := by
  rw [run_callFunc_extern Tryd.func69 (by kernel_rfl) (by kernel_rfl) (by kernel_rfl) (e := Extern.MathFloor.toIntegral "math.archCeil" .up) (by kernel_rfl)]
  obtain ⟨m, a, e1, e2⟩ := read_pos h
  have hd : FloatKind.f64.decode r = .number false m (-1074 + (a : Int)) := e1
  have hw : FloatKind.f64.encode (Ieee.Datum.integral .up (.number false m (-1074 + (a : Int)))) = rndR (ceilR r) 0 := by
    show Ieee.double.nearest false (Ieee.Toward.up.cut false (m <<< (-1074 + (a : Int)).toNat) (-(-1074 + (a : Int))).toNat) 0 = _
    rw [ceil_read e2, nearest_word, word_val]
    simp
  rw [integral_num _ _ _ _ _ _ hd, hw]
  rfl
theorem ceil_any (r : Nat) (h : r < 9218868437227405312) (w : World) : Calls Tryd.prog 50 #[.float .f64 r] w fun e w' => e = .returned (.float .f64 (rndR (ceilR r) 0)) ∧ w' = w := by
  have ha := arch_run r h
  clear h
  generalize rndR (ceilR r) 0 = q at *
  go_enter Tryd.func50, Tryd.ntmps50
  go_wp2
  go_ret
  exact ⟨rfl, rfl⟩
theorem toint_run (r : Nat) (h : r < 9218868437227405312) (hf : floorR r ≤ 9223372036854775807) (W : World) : (convert 82 3 (.float .f64 r)).run Tryd.prog W = .ok (.int .i64 (floorR r : Int)) W := by
  refine run_convert_float_int W _ _ _ _ _ _ (by kernel_rfl) Tryd.underlying3 ?_
  obtain ⟨m, a, e1, e2⟩ := read_pos h
  have hd : (FloatKind.f64.decode r).toInt .zero = some (floorR r : Int) := by
    show (Ieee.double.read r).toInt .zero = _
    rw [e1]
    show some (Ieee.signed false (Ieee.Toward.zero.cut false (m <<< (-1074 + (a : Int)).toNat) (-(-1074 + (a : Int))).toNat) 0) = _
    rw [floor_read false e2, signed_sg]
    unfold sgI
    simp
  unfold floatToIntVal
  rw [hd]
  simp only
  rw [if_pos]
  constructor
  · show (-9223372036854775808 : Int) ≤ _; omega
  · show _ ≤ (9223372036854775807 : Int); omega
theorem rungv_ten (e : Nat) : rungv ((e + 11) * 4503599627370496) = 4503599627370496 * 2 ^ (e + 10) := by
  unfold rungv
  rw [if_neg (by omega), Nat.mul_div_cancel _ (by omega), Nat.mul_mod_left, Nat.add_zero]
  rfl
theorem rep_most : Rep 4611686018427387904 := by
  refine ⟨(eT + 11) * 4503599627370496, by rw [eT_eq]; decide, ?_⟩
  rw [rungv_ten, unitT_eq, Nat.pow_add 2 eT 10]
  generalize 2 ^ eT = z
  omega
theorem rndR_up {m n : Nat} (h : m ≤ n) : rndR m 0 ≤ rndR n 0 := rndR_mono 0 (by omega) (by omega) (by simpa using h)
/-- The float of a count. -/
def cntR (n : Int) : Nat := rndR (cutI n).toNat 0
theorem cntR_lt (n : Int) : cntR n < 9218868437227405312 := rndR_small (by have := cutI_s n; unfold sI at this; omega)
theorem intB_cut (n : Int) : floatOfInt .f64 (cutI n) = cntR n := by
  have hs := cutI_s n
  unfold sI at hs
  rw [float_int]
  unfold intB cntR
  have : (cutI n).natAbs = (cutI n).toNat := by omega
  rw [decide_eq_false (by omega), word_val, this, if_neg (by decide)]
def prodR (n : Int) (f : Nat) : Nat := mulR (cntR n) (cleanB f)
/-- The float of the greatest count. -/
def topR : Nat := rndR 4611686018427387904 0
theorem topR_is : topR < 9218868437227405312 ∧ rungv topR = 4611686018427387904 * unitT := rep_round rep_most
theorem cntR_le (n : Int) : cntR n ≤ topR := by
  have hs := cutI_s n
  unfold sI at hs
  exact rndR_up (by omega)
theorem prodR_le (n : Int) (f : Nat) : prodR n f ≤ topR := Nat.le_trans (mulR_le (cntR_lt n) (cleanB_le f)) (cntR_le n)
attribute [irreducible] topR
theorem prodR_lt (n : Int) (f : Nat) : prodR n f < 9218868437227405312 := by
  have h1 := prodR_le n f
  have h2 := topR_is.1
  omega
theorem ceil_top : ceilR topR = 4611686018427387904 := by
  unfold ceilR
  rw [topR_is.2]
  exact ceilN_eq unitT_pos (Nat.le_refl _) (by have := unitT_pos; omega)
theorem ceil_most (n : Int) (f : Nat) : ceilR (prodR n f) ≤ 4611686018427387904 := by
  have h1 : ceilR (prodR n f) ≤ ceilR topR := ceilN_mono unitT_pos (rungv_le (prodR_le n f))
  rw [ceil_top] at h1
  exact h1
theorem floor_rep {k : Nat} (h : Rep k) : floorR (rndR k 0) = k := by
  unfold floorR
  rw [(rep_round h).2, Nat.mul_div_cancel _ unitT_pos]
theorem mul_run (x y r : Nat) (h : Ieee.double.mul x y = some r) (W : World) : (binOp .mul 82 (.float .f64 x) (.float .f64 y)).run Tryd.prog W = .ok (.float .f64 r) W :=
  run_float_arith W .mul _ .f64 x y r h
/-- So much of n, rounded up. -/
def scaleI (n : Int) (f : Nat) : Int := min (cutI n) (ceilR (prodR n f) : Int)
theorem scale_any (n : Int) (f : Nat) (hf : f < 18446744073709551616) (w : World) : Calls Tryd.prog 36 #[.int .i64 n, .float .f64 f] w fun e w' => e = .returned (.int .i64 (scaleI n f)) ∧ w' = w := by
  have hi := intB_cut n
  have hm := mul_run _ _ _ (mul_some (cntR_lt n) (show cleanB f < 9218868437227405312 by have := cleanB_le f; omega))
  have hp := prodR_lt n f
  have hc := ceil_most n f
  have hrep := rep_ceil hp
  have ht := toint_run (rndR (ceilR (prodR n f)) 0) (rep_round hrep).1 (by rw [floor_rep hrep]; omega)
  rw [floor_rep hrep] at ht
  have HM : ∀ W : World, (binOp .mul 82 (.float .f64 (cntR n)) (.float .f64 (cleanB f))).run Tryd.prog W = .ok (.float .f64 (prodR n f)) W := hm
  have HC := Lib.hid (ceil_any (prodR n f) hp)
  have HF := Lib.hid (clean_any f hf)
  unfold scaleI
  clear hm hp hrep hf hc
  generalize prodR n f = p at *
  generalize ceilR p = k at *
  generalize rndR k 0 = q at *
  generalize cleanB f = y at *
  generalize cntR n = x at *
  go_enter Tryd.func36, Tryd.ntmps36
  go_wp2_with (first | (go_at_call 49; refine (cut_any _ _).mono ?_; rintro e w' ⟨rfl, rfl⟩) | (go_at_call 51; refine (HF.out _).mono ?_; rintro e w' ⟨rfl, rfl⟩) | (go_at_call 50; refine (HC.out _).mono ?_; rintro e w' ⟨rfl, rfl⟩))
  go_ret
  exact ⟨rfl, rfl⟩
theorem scaleI_s (n : Int) (f : Nat) : 0 ≤ scaleI n f ∧ scaleI n f ≤ cutI n := by
  have := cutI_s n
  unfold sI at this
  unfold scaleI
  omega
theorem scaleI_up {n m : Int} {f g : Nat} (h : cutI n ≤ cutI m) (hf : cleanB f ≤ cleanB g) : scaleI n f ≤ scaleI m g := by
  have h1 := rungv_le hf
  have h2 : rungv (cntR n) ≤ rungv (cntR m) := rungv_le (rndR_up (by have := cutI_s n; have := cutI_s m; unfold sI at *; omega))
  have c1 := cleanB_le f
  have c2 := cleanB_le g
  have h3 : prodR n f ≤ prodR m g := mulR_mono (cntR_lt n) (by omega) (cntR_lt m) (by omega) (Nat.mul_le_mul h2 h1)
  have h4 : ceilR (prodR n f) ≤ ceilR (prodR m g) := ceilN_mono unitT_pos (rungv_le h3)
  unfold scaleI
  omega
end Go.Proofs.YtbglmcebkpkccaaDoor

/- The laws of shares of floats and of quotients, and of parts of counts, of layer 28. No condition but that bits are 64. -/
namespace Go.Proofs.YtbglmcebkpkccaaDoor
open Go.RowKit
attribute [local go_sem] more_cell more_frozen more_more more_setCell more_of_drew more_of_drewN lt_more le_more past_cell past_cell2 past_frozen past_frozen2 past_setCell past_setCell2 mid_cell mid_frozen mid_setCell
attribute [local go_sem ↓] Go.wp_at_zero Go.wp_at_succ

theorem live_scale : scaleI 10 4598175219545276416 = 3 := by decide +kernel
theorem of_to (a b : Int) (r : Nat) (ha : isI64 a) (hb : isI64 b) (h : ofB a b = r) (w : World) : Gives Tryd.prog 67 #[.int .i64 a, .int .i64 b] w (.float .f64 r) := by
  rw [← h]
  exact fof_any a b ha hb w
theorem scale_to (n : Int) (f : Nat) (r : Int) (hf : f < 18446744073709551616) (h : scaleI n f = r) (w : World) : Calls Tryd.prog 36 #[.int .i64 n, .float .f64 f] w fun e w' => e = .returned (.int .i64 r) ∧ w' = w := by
  rw [← h]
  exact scale_any n f hf w
end Go.Proofs.YtbglmcebkpkccaaDoor

namespace Go.Proofs.YtbglmcebkpkccaaDoor
open Go.RowKit
attribute [local go_sem] more_cell more_frozen more_more more_setCell more_of_drew more_of_drewN lt_more le_more past_cell past_cell2 past_frozen past_frozen2 past_setCell past_setCell2 mid_cell mid_frozen mid_setCell
attribute [local go_sem ↓] Go.wp_at_zero Go.wp_at_succ

def notB (f : Nat) : Nat := (Ieee.double.sub 4607182418800017408 (cleanB f)).getD 0
theorem notB_is (f : Nat) : Ieee.double.sub 4607182418800017408 (cleanB f) = some (notB f) ∧ notB f ≤ 4607182418800017408 := by
  obtain ⟨r, h1, h2⟩ := sub_one (cleanB_le f)
  unfold notB
  rw [h1]
  exact ⟨rfl, h2⟩
theorem sub_run (x y r : Nat) (h : Ieee.double.sub x y = some r) (W : World) : (binOp .sub 82 (.float .f64 x) (.float .f64 y)).run Tryd.prog W = .ok (.float .f64 r) W :=
  run_float_arith W .sub _ .f64 x y r h
theorem add_run (x y r : Nat) (h : Ieee.double.add x y = some r) (W : World) : (binOp .add 82 (.float .f64 x) (.float .f64 y)).run Tryd.prog W = .ok (.float .f64 r) W :=
  run_float_arith W .add _ .f64 x y r h
theorem fnot_any (f : Nat) (hf : f < 18446744073709551616) (w : World) : Calls Tryd.prog 73 #[.float .f64 f] w fun e w' => e = .returned (.float .f64 (notB f)) ∧ w' = w := by
  have hs := sub_run _ _ _ (notB_is f).1
  have HC := Lib.hid (clean_any f hf)
  clear hf
  generalize notB f = r at *
  generalize cleanB f = c at *
  go_enter Tryd.func73, Tryd.ntmps73
  go_wp2_with (go_at_call 51; refine (HC.out _).mono ?_; rintro e w' ⟨rfl, rfl⟩)
  go_ret
  exact ⟨rfl, rfl⟩
theorem mulR_share {x y : Nat} (hx : x ≤ 4607182418800017408) (hy : y ≤ 4607182418800017408) : mulR x y ≤ 4607182418800017408 := Nat.le_trans (mulR_le (by omega) hy) hx
/-- One of two shares. -/
def orB (a b : Nat) : Nat := cleanB ((Ieee.double.sub ((Ieee.double.add (cleanB a) (cleanB b)).getD 0) (mulR (cleanB a) (cleanB b))).getD 0)
theorem orB_is (a b : Nat) : ∃ s t, Ieee.double.add (cleanB a) (cleanB b) = some s ∧ Ieee.double.sub s (mulR (cleanB a) (cleanB b)) = some t ∧ t < 18446744073709551616 ∧ cleanB t = orB a b := by
  obtain ⟨s, h1, h2⟩ := add_share (cleanB_le a) (cleanB_le b)
  have h3 := mulR_share (cleanB_le a) (cleanB_le b)
  obtain ⟨t, h4⟩ := sub_fin (x := s) (y := mulR (cleanB a) (cleanB b)) (by rw [rung_pos h2]; exact h2) (by rw [rung_pos (by omega)]; omega)
  refine ⟨s, t, h1, h4, sub_lt h4, ?_⟩
  unfold orB
  rw [h1, Option.getD_some, h4, Option.getD_some]
theorem orB_comm (a b : Nat) : orB b a = orB a b := by
  unfold orB
  rw [add_comm (cleanB b), mulR_comm (cleanB b)]
theorem fo_or_any (a b : Nat) (ha : a < 18446744073709551616) (hb : b < 18446744073709551616) (w : World) : Calls Tryd.prog 74 #[.float .f64 a, .float .f64 b] w fun e w' => e = .returned (.float .f64 (orB a b)) ∧ w' = w := by
  obtain ⟨s, t, h1, h2, h3, h4⟩ := orB_is a b
  have hA := add_run _ _ _ h1
  have hS := sub_run _ _ _ h2
  have hm := mul_run _ _ _ (mul_some (show cleanB a < 9218868437227405312 by have := cleanB_le a; omega) (show cleanB b < 9218868437227405312 by have := cleanB_le b; omega))
  have HC := Lib.hid (clean_any a ha)
  have HD := Lib.hid (clean_any b hb)
  have HT := Lib.hid (clean_to t _ h3 h4)
  clear ha hb h1 h2 h3 h4
  generalize orB a b = r at *
  generalize cleanB a = x at *
  generalize cleanB b = y at *
  generalize mulR x y = p at *
  go_enter Tryd.func74, Tryd.ntmps74
  go_wp2_with (first | (go_at_call 51; (with_reducible refine (HC.out _).mono ?_); rintro e w' ⟨rfl, rfl⟩) | (go_at_call 51; (with_reducible refine (HD.out _).mono ?_); rintro e w' ⟨rfl, rfl⟩) | (go_at_call 51; (with_reducible refine (HT.out _).mono ?_); rintro e w' ⟨rfl, rfl⟩))
  go_ret
  exact ⟨rfl, rfl⟩
/-- All shares. -/
def andF (l : List Nat) (a : Nat) : Nat := l.foldl (fun a f => mulR a (cleanB f)) a
theorem andF_le (l : List Nat) : ∀ a, a ≤ 4607182418800017408 → andF l a ≤ a := by
  induction l with
  | nil => intro a _; exact Nat.le_refl _
  | cons f l ih =>
    intro a h
    have h1 := mulR_le (x := a) (by omega) (cleanB_le f)
    have h2 := ih (mulR a (cleanB f)) (by omega)
    show andF l (mulR a (cleanB f)) ≤ a
    omega
theorem andF_part (l : List Nat) : ∀ a, a ≤ 4607182418800017408 → ∀ f ∈ l, andF l a ≤ cleanB f := by
  induction l with
  | nil => intro a _ f hf; cases hf
  | cons g l ih =>
    intro a h f hf
    have h1 := mulR_le (x := a) (by omega) (cleanB_le g)
    show andF l (mulR a (cleanB g)) ≤ cleanB f
    rcases List.mem_cons.1 hf with rfl | hf
    · have h2 := andF_le l (mulR a (cleanB f)) (by omega)
      have h3 := mulR_le (x := cleanB f) (y := a) (by have := cleanB_le f; omega) h
      rw [mulR_comm] at h3
      omega
    · exact ih _ (by omega) f hf
theorem andF_take (l : List Nat) (a : Nat) (k : Nat) (h : k < l.length) : andF (l.take (k + 1)) a = mulR (andF (l.take k) a) (cleanB l[k]) := by
  rw [List.take_succ_eq_append_getElem h]
  unfold andF
  rw [List.foldl_append]
  rfl
def FkAndAt (l : List Nat) (x i : Value) : Prop := ∃ k : Nat, k ≤ l.length ∧ i = .int .i64 k ∧ x = .float .f64 (andF (l.take k) 4607182418800017408)
theorem fo_and_any (l : List Nat) (A : Option Addr) (c : Nat) (hl : l.length ≤ 1000000) (hall : ∀ x ∈ l, x < 18446744073709551616) (w : World) (hr : Row w A (l.map (Value.float .f64))) :
    Calls Tryd.prog 38 #[.slice A l.length c] w fun e w' => e = .returned (.float .f64 (andF l 4607182418800017408)) ∧ w' = w := by
  have HR := Lib.hid hr
  have HA := Lib.hid hall
  clear hr hall
  go_enter Tryd.func38, Tryd.ntmps38
  go_wp2
  go_loop [3, 8] (fun x i => FkAndAt l x i) (fun _ i => l.length - (intOf i).toNat)
  case atStart => exact ⟨0, Nat.zero_le _, rfl, rfl⟩
  case round =>
    obtain ⟨k, hk, rfl, rfl⟩ := hrel
    by_cases h : k < l.length
    · obtain ⟨b, o, rfl, hb, hc⟩ := HR.out.at_ (k := k) (by simpa using h)
      simp only [List.getElem_map] at hc
      have HT := Lib.hid (andF_take l 4607182418800017408 k h)
      have hle := andF_le (l.take k) 4607182418800017408 (by omega)
      have hm := mul_run _ _ _ (mul_some (show andF (l.take k) 4607182418800017408 < 9218868437227405312 by omega) (show cleanB l[k] < 9218868437227405312 by have := cleanB_le l[k]; omega))
      have HC := Lib.hid (clean_any l[k] (HA.out _ (List.getElem_mem h)))
      clear hle
      generalize andF (l.take k) 4607182418800017408 = x at *
      generalize cleanB l[k] = y at *
      generalize l[k] = z at *
      go_wp2_with (go_at_call 51; refine (HC.out _).mono ?_; rintro e w' ⟨rfl, rfl⟩)
      case roundEnd => exact ⟨⟨k + 1, by omega, by simp, by rw [HT.out]⟩, by simp only [intOf]; omega⟩
    · obtain rfl : k = l.length := by omega
      rw [List.take_length]
      go_wp2
      go_ret
      exact ⟨rfl, rfl⟩
end Go.Proofs.YtbglmcebkpkccaaDoor
