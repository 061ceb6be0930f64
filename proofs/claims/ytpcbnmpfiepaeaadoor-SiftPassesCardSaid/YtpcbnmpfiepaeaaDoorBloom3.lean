/- Layer 18: how many words are enough. Condition: numbers of 64 bits. -/
import Derived.Test.YtpcbnmpfiepaeaaDoorBloom2
namespace Go.Proofs.YtpcbnmpfiepaeaaDoor
open Go.RowKit
attribute [local go_sem ↓] Go.wp_at_zero Go.wp_at_succ

def sizeG : Nat → Nat → Int → Nat
  | 0, x, _ => x
  | f + 1, x, need => if (x : Int) * 64 < need then sizeG f (2 * x) need else x
def SizeAt (need : Int) (r : Nat) (v : Value) : Prop := ∃ f x : Nat, x * 2 ^ f = 4096 ∧ v = .int .i64 x ∧ sizeG f x need = r
def mid (n lo hi : Int) : Int := if n < lo then lo else if hi < n then hi else n
theorem held_any (n lo hi : Int) (w : World) : Calls Tryd.prog 40 #[.int .i64 n, .int .i64 lo, .int .i64 hi] w fun e w' => e = .returned (.int .i64 (mid n lo hi)) ∧ w' = w := by
  unfold mid
  by_cases h1 : n < lo
  · rw [if_pos h1]
    go_enter Tryd.func40, Tryd.ntmps40
    go_wp2
    go_ret
    exact ⟨rfl, rfl⟩
  · rw [if_neg h1]
    by_cases h2 : hi < n
    · rw [if_pos h2]
      go_enter Tryd.func40, Tryd.ntmps40
      go_wp2
      go_ret
      exact ⟨rfl, rfl⟩
    · rw [if_neg h2]
      go_enter Tryd.func40, Tryd.ntmps40
      go_wp2
      go_ret
      exact ⟨rfl, rfl⟩
theorem mid_max (n : Int) (hi : Int) (h : 0 ≤ hi) : (if (if 0 < n then n else 0) < hi then (if 0 < n then n else 0) else hi) = mid n 0 hi := by
  unfold mid
  (repeat' split) <;> omega
theorem mid_bd (n : Int) : 0 ≤ mid n 0 1048576 ∧ mid n 0 1048576 ≤ 1048576 := by unfold mid; (repeat' split) <;> omega
theorem step_x {f x : Nat} (h : x * 2 ^ (f + 1) = 4096) : 2 * x * 2 ^ f = 4096 ∧ x ≤ 2048 ∧ 1 ≤ x := by
  have h1 : 2 * x * 2 ^ f = 4096 := by rw [← h, Nat.pow_succ]; rw [Nat.mul_comm (2 ^ f) 2, ← Nat.mul_assoc, Nat.mul_comm x 2]
  have h2 : 1 ≤ 2 ^ f := Nat.one_le_two_pow
  have h3 : 2 * x * 1 ≤ 2 * x * 2 ^ f := Nat.mul_le_mul_left _ h2
  refine ⟨h1, by omega, ?_⟩
  rcases Nat.eq_zero_or_pos x with h4 | h4
  · subst h4; simp at h1
  · exact h4
theorem need_is (rows per : Int) : wrap64 (min 1048576 (max 0 rows) * min 1048576 (max 0 per)) = mid rows 0 1048576 * mid per 0 1048576 := by
  have e1 : min 1048576 (max 0 rows) = mid rows 0 1048576 := by unfold mid; (repeat' split) <;> omega
  have e2 : min 1048576 (max 0 per) = mid per 0 1048576 := by unfold mid; (repeat' split) <;> omega
  rw [e1, e2]
  have h1 := mid_bd rows
  have h2 := mid_bd per
  generalize mid rows 0 1048576 = p at *
  generalize mid per 0 1048576 = q at *
  have h3 : 0 ≤ p * q := Int.mul_nonneg h1.1 h2.1
  have h4 : p * q ≤ 1048576 * 1048576 := Int.mul_le_mul h1.2 h2.2 h2.1 (by decide)
  generalize p * q = z at *
  exact IntWalk.wrap64_in _ ⟨by omega, by omega⟩
end Go.Proofs.YtpcbnmpfiepaeaaDoor
