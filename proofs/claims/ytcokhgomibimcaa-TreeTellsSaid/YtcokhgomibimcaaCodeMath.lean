/- Layer 39: numbers as bytes: plain mathematics. No condition but the numbers' own bounds. -/
import Derived.Test.YtcokhgomibimcaaApp
namespace Go.Proofs.Ytcokhgomibimcaa

/-- A number, so that small ones are small whatever their sign. -/
def zz (n : Int) : Nat := if n < 0 then 2 * (-(n + 1)).toNat + 1 else 2 * n.toNat
def uz (z : Nat) : Int := if z % 2 = 1 then -((z / 2 : Nat) : Int) - 1 else (z / 2 : Nat)
theorem uz_zz (n : Int) : uz (zz n) = n := by
  unfold uz zz
  by_cases h : n < 0
  · rw [if_pos h, if_pos (by omega)]; omega
  · rw [if_neg h, if_neg (by omega)]; omega
theorem zz_uz (z : Nat) : zz (uz z) = z := by
  unfold uz zz
  by_cases h : z % 2 = 1
  · rw [if_pos h, if_pos (by omega)]; omega
  · rw [if_neg h, if_neg (by omega)]; omega
theorem zz_lt (n : Int) (h1 : -9223372036854775808 ≤ n) (h2 : n ≤ 9223372036854775807) : zz n < 18446744073709551616 := by
  unfold zz
  split <;> omega
theorem uz_bd (z : Nat) (h : z < 18446744073709551616) : -9223372036854775808 ≤ uz z ∧ uz z ≤ 9223372036854775807 := by
  unfold uz
  split <;> omega
/-- Its bytes: seven bits each, the lowest first. -/
def vbF : Nat → Nat → List Nat
  | 0, z => [z]
  | f + 1, z => if z < 128 then [z] else (z % 128 + 128) :: vbF f (z / 128)
def vb (z : Nat) : List Nat := vbF 9 z
theorem vbF_len (f z : Nat) : 1 ≤ (vbF f z).length ∧ (vbF f z).length ≤ f + 1 := by
  induction f generalizing z with
  | zero => simp [vbF]
  | succ f ih =>
    unfold vbF
    split
    · simp
    · have := ih (z / 128)
      simp only [List.length_cons]
      omega
theorem vbF_more (f z : Nat) (h : z < 128 ^ (f + 1)) : vbF (f + 1) z = vbF f z := by
  induction f generalizing z with
  | zero =>
    unfold vbF
    rw [if_pos (by simpa using h)]
  | succ f ih =>
    rw [show vbF (f + 1 + 1) z = if z < 128 then [z] else (z % 128 + 128) :: vbF (f + 1) (z / 128) from rfl]
    rw [show vbF (f + 1) z = if z < 128 then [z] else (z % 128 + 128) :: vbF f (z / 128) from rfl]
    by_cases h1 : z < 128
    · rw [if_pos h1, if_pos h1]
    · rw [if_neg h1, if_neg h1, ih (z / 128) ?_]
      exact Nat.div_lt_of_lt_mul (by rw [Nat.mul_comm]; rw [← Nat.pow_succ]; exact h)
theorem vb_small (z : Nat) (h : z < 128) : vb z = [z] := by unfold vb vbF; rw [if_pos h]
theorem vb_big (z : Nat) (h : ¬ z < 128) (h2 : z < 18446744073709551616) : vb z = (z % 128 + 128) :: vb (z / 128) := by
  have e : vb z = (z % 128 + 128) :: vbF 8 (z / 128) := by unfold vb; rw [show vbF 9 z = if z < 128 then [z] else (z % 128 + 128) :: vbF 8 (z / 128) from rfl, if_neg h]
  rw [e]
  unfold vb
  rw [vbF_more 8 (z / 128) ?_]
  have : z / 128 < 144115188075855872 := by omega
  exact Nat.lt_of_lt_of_le this (by decide)
theorem vb_len (z : Nat) : 1 ≤ (vb z).length ∧ (vb z).length ≤ 10 := vbF_len 9 z
theorem vb_byte (z : Nat) (hz : z < 18446744073709551616) : ∀ x ∈ vb z, x < 256 := by
  have h : ∀ (n : Nat) (z : Nat), z ≤ n → z < 18446744073709551616 → ∀ x ∈ vb z, x < 256 := by
    intro n
    induction n with
    | zero =>
      intro z h1 _ x hx
      rw [vb_small z (by omega)] at hx
      simp at hx
      omega
    | succ n ih =>
      intro z h1 h2 x hx
      by_cases h3 : z < 128
      · rw [vb_small z h3] at hx
        simp at hx
        omega
      · rw [vb_big z h3 h2] at hx
        rcases List.mem_cons.1 hx with h4 | h4
        · omega
        · exact ih (z / 128) (by omega) (by omega) x h4
  exact h z z (Nat.le_refl _) hz
/-- Numbers' bytes: how many, and each. -/
def vbs (l : List Int) : List Nat := vb (zz l.length) ++ (l.map fun n => vb (zz n)).flatten
/-- The value of some bytes, seven bits each. -/
def valB : List Nat → Nat
  | [] => 0
  | x :: l => x % 128 + 128 * valB l
theorem valB_vb (z : Nat) (hz : z < 18446744073709551616) : valB (vb z) = z := by
  have h : ∀ (n : Nat) (z : Nat), z ≤ n → z < 18446744073709551616 → valB (vb z) = z := by
    intro n
    induction n with
    | zero =>
      intro z h1 _
      rw [vb_small z (by omega)]
      simp [valB]
      omega
    | succ n ih =>
      intro z h1 h2
      by_cases h3 : z < 128
      · rw [vb_small z h3]
        simp [valB]
        omega
      · rw [vb_big z h3 h2]
        show (z % 128 + 128) % 128 + 128 * valB (vb (z / 128)) = z
        rw [ih (z / 128) (by omega) (by omega)]
        omega
  exact h z z (Nat.le_refl _) hz
/-- The first number of some bytes: its value, and how many bytes it takes; none if they don't begin with just the bytes of one. -/
def numB (l : List Nat) : Option (Nat × Nat) :=
  let k := (l.takeWhile fun x => decide (128 ≤ x)).length
  if k < l.length ∧ k < 10 ∧ valB (l.take (k + 1)) < 18446744073709551616 ∧ l.take (k + 1) = vb (valB (l.take (k + 1))) then some (valB (l.take (k + 1)), k + 1) else none
end Go.Proofs.Ytcokhgomibimcaa
