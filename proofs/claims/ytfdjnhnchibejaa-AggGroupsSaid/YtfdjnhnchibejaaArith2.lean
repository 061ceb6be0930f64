/- Layer 3: both numbers together, one less the other, one times the other; values by a sign. Condition: numbers of 64 bits. -/
import Derived.Test.YtfdjnhnchibejaaArith
namespace Go.Proofs.Ytfdjnhnchibejaa
open Go.RowKit
attribute [local go_sem] more_cell more_frozen more_more more_size more_setCell
attribute [local go_sem ↓] Go.wp_at_zero Go.wp_at_succ

theorem ret_fit {z n : Int} (h : fits z = true) (e : n = z) : Ending.returned (.tuple #[.int .i64 n, .bool true]) = .returned (.tuple #[.int .i64 (fitV z), .bool (fits z)]) := by
  unfold fitV
  rw [if_pos h, h, e]
theorem ret_nofit {z : Int} (h : fits z = false) : Ending.returned (.tuple #[.int .i64 0, .bool false]) = .returned (.tuple #[.int .i64 (fitV z), .bool (fits z)]) := by
  unfold fitV
  rw [h]
  rfl
theorem fits_iff (z : Int) : fits z = true ↔ isI z := by unfold fits isI; simp
theorem fits_no (z : Int) (h : ¬ isI z) : fits z = false := by
  cases hf : fits z
  · rfl
  · exact absurd ((fits_iff z).1 hf) h
theorem wrap_fit {z : Int} (h : isI z) : wrap64 z = z := by unfold isI at h; unfold wrap64; omega
theorem quo_ok {a b : Int} (h0 : b ≠ 0) : (a * b).tdiv b = a ∧ (a * b).tmod b = 0 := ⟨Int.mul_tdiv_cancel a h0, Int.mul_tmod_left a b⟩
theorem quo_self {b : Int} (h0 : b ≠ 0) : b.tdiv b = 1 := Int.tdiv_self h0
theorem quo_neg {b : Int} (h0 : b ≠ 0) : (-b).tdiv b = -1 := by rw [Int.neg_tdiv, Int.tdiv_self h0]
/-- A product that does not fit, cut to 64 bits: the quotient or the rest tells. -/
theorem quo_no {a b : Int} (hz : ¬ isI (a * b)) (h : (wrap64 (a * b)).tdiv b = a) : ((wrap64 (a * b)).tmod b != 0) = true := by
  rw [bne_iff_ne]
  intro h2
  have h3 := Int.mul_tdiv_add_tmod (wrap64 (a * b)) b
  rw [h, h2, Int.add_zero, Int.mul_comm] at h3
  have h4 := wrap_isI (a * b)
  rw [← h3] at h4
  exact hz h4
theorem tdiv_isI {n b : Int} (hn : isI n) (hb : ¬ b = -1) : wrap64 (n.tdiv b) = n.tdiv b := by
  apply wrap_fit
  unfold isI at hn ⊢
  by_cases h0 : b = 0
  · subst h0
    simp
  · have h1 : (n.tdiv b).natAbs ≤ n.natAbs := by
      rw [Int.natAbs_tdiv]
      exact Nat.div_le_self _ _
    by_cases h2 : n = -9223372036854775808
    · by_cases h3 : b = 1
      · subst h3
        simp
        omega
      · have h4 : (n.tdiv b).natAbs ≤ n.natAbs / 2 := by
          rw [Int.natAbs_tdiv]
          exact Nat.div_le_div_left (by omega) (by omega)
        omega
    · omega
end Go.Proofs.Ytfdjnhnchibejaa
