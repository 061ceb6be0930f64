/- How many keys may pass a filter, as plain arithmetic; no less of more keys, no more of more words. -/
import Derived.Test.YtlnpiemnkpogfaaDivMath
namespace Go.Proofs.Ytlnpiemnkpogfaa

/-- How many of 2^16 bits are unset behind k steps. -/
def unsetI : Nat → Int
  | 0 => 65536
  | k + 1 => partI (unsetI k) 63 64
def passI (u : Int) : Nat → Int
  | 0 => 65536
  | k + 1 => partI (passI u k) (65536 - u) 65536
theorem unsetI_s (k : Nat) : 0 ≤ unsetI k ∧ unsetI k ≤ 65536 := by
  induction k with
  | zero => unfold unsetI; omega
  | succ k ih =>
    have := partI_s (n := unsetI k) (num := 63) (den := 64) ih.1 (by omega)
    show 0 ≤ partI (unsetI k) 63 64 ∧ partI (unsetI k) 63 64 ≤ 65536
    omega
theorem unsetI_down {j k : Nat} (h : j ≤ k) : unsetI k ≤ unsetI j := by
  induction k with
  | zero => obtain rfl : j = 0 := by omega
            exact Int.le_refl _
  | succ k ih =>
    rcases Nat.lt_or_eq_of_le h with h | rfl
    · have := ih (by omega)
      have h2 := (partI_s (n := unsetI k) (num := 63) (den := 64) (unsetI_s k).1 (by omega)).2
      show partI (unsetI k) 63 64 ≤ _
      omega
    · exact Int.le_refl _
theorem passI_s {u : Int} (h : u ≤ 65536) (k : Nat) : 0 ≤ passI u k ∧ passI u k ≤ 65536 := by
  induction k with
  | zero => unfold passI; omega
  | succ k ih =>
    have := partI_s (n := passI u k) (num := 65536 - u) (den := 65536) ih.1 (by omega)
    show 0 ≤ partI (passI u k) (65536 - u) 65536 ∧ partI (passI u k) (65536 - u) 65536 ≤ 65536
    omega
theorem passI_up {u v : Int} (h : v ≤ u) (hu : u ≤ 65536) (k : Nat) : passI u k ≤ passI v k := by
  induction k with
  | zero => exact Int.le_refl _
  | succ k ih =>
    have h1 := passI_s hu k
    have h3 := partI_mono (n := passI u k) (num := 65536 - u) (num' := 65536 - v) (den := 65536) h1.1 (by omega) (by omega) (by omega)
    have h4 := partI_mono_n (n := passI u k) (n' := passI v k) (num := 65536 - v) (den := 65536) ih (by omega) (by omega)
    show partI (passI u k) (65536 - u) 65536 ≤ partI (passI v k) (65536 - v) 65536
    omega
/-- A number from one to another. -/
def heldI (n low high : Int) : Int := if n < low then low else if high < n then high else n
theorem heldI_s {n low high : Int} (h : low ≤ high) : low ≤ heldI n low high ∧ heldI n low high ≤ high := by
  unfold heldI; (repeat' split) <;> omega
theorem heldI_up {n m low high : Int} (h : low ≤ high) (hn : n ≤ m) : heldI n low high ≤ heldI m low high := by
  unfold heldI; (repeat' split) <;> omega
/-- A quotient, rounded up. -/
def divI (x y : Int) : Int := if x = 0 then 0 else if y = 0 then 4611686018427387904 else (x - 1) / y + 1
theorem divI_up {x x' y : Int} (hx : 0 ≤ x) (h : x ≤ x') (hy : 0 < y) : divI x y ≤ divI x' y := by
  unfold divI
  rw [if_neg (Int.ne_of_gt hy), if_neg (Int.ne_of_gt hy)]
  by_cases h0 : x = 0
  · rw [if_pos h0]
    split
    · omega
    · have : 0 ≤ (x' - 1) / y := Int.ediv_nonneg (by omega) (by omega)
      omega
  · rw [if_neg h0, if_neg (by omega)]
    have := Int.ediv_le_ediv hy (by omega : x - 1 ≤ x' - 1)
    omega
theorem divI_down {x y y' : Int} (hx : 0 ≤ x) (h : y ≤ y') (hy : 0 < y) : divI x y' ≤ divI x y := by
  unfold divI
  rw [if_neg (by omega : ¬ y = 0), if_neg (by omega : ¬ y' = 0)]
  by_cases h0 : x = 0
  · rw [if_pos h0, if_pos h0]; omega
  · rw [if_neg h0, if_neg h0]
    have h1 : y * ((x - 1) / y') ≤ x - 1 := by
      have h2 : y' * ((x - 1) / y') ≤ x - 1 := Int.mul_ediv_self_le (by omega)
      have h3 : y * ((x - 1) / y') ≤ y' * ((x - 1) / y') := Int.mul_le_mul_of_nonneg_right h (Int.ediv_nonneg (by omega) (by omega))
      omega
    have : (x - 1) / y' ≤ (x - 1) / y := (Int.le_ediv_iff_mul_le hy).2 (by rw [Int.mul_comm]; exact h1)
    omega
theorem divI_s {x y : Int} (hx : 0 ≤ x) (hx' : x ≤ 4611686018427387904) (hy : 0 ≤ y) : 0 ≤ divI x y ∧ divI x y ≤ 4611686018427387904 := by
  unfold divI
  split
  · omega
  · split
    · omega
    · have h1 : 0 ≤ (x - 1) / y := Int.ediv_nonneg (by omega) (by omega)
      have h2 : (x - 1) / y ≤ x - 1 := Int.ediv_le_self _ (by omega)
      omega
/-- Of so many words (from 1 on), bits, and steps' product p. -/
def passOf (w b p : Int) : Int := passI (unsetI (heldI (divI p w) 0 1000).toNat) b.toNat
theorem passOf_s (w b p : Int) : 0 ≤ passOf w b p ∧ passOf w b p ≤ 65536 := passI_s (unsetI_s _).2 _
theorem passOf_up {w b p p' : Int} (hw : 0 < w) (hp : 0 ≤ p) (h : p ≤ p') : passOf w b p ≤ passOf w b p' := by
  unfold passOf
  refine passI_up (unsetI_down ?_) (unsetI_s _).2 _
  have := heldI_up (n := divI p w) (m := divI p' w) (low := 0) (high := 1000) (by omega) (divI_up hp h hw)
  omega
theorem passOf_down {w w' b p : Int} (hw : 0 < w) (hp : 0 ≤ p) (h : w ≤ w') : passOf w' b p ≤ passOf w b p := by
  unfold passOf
  refine passI_up (unsetI_down ?_) (unsetI_s _).2 _
  have := heldI_up (n := divI p w') (m := divI p w) (low := 0) (high := 1000) (by omega) (divI_down hp h hw)
  omega
end Go.Proofs.Ytlnpiemnkpogfaa
