/- Layer 18: how many words are enough. Condition: numbers of 64 bits. -/
import Derived.Test.YthngafgblehpoaaBloom2
namespace Go.Proofs.Ythngafgblehpoaa
open Go.RowKit
attribute [local go_sem ↓] Go.wp_at_zero Go.wp_at_succ

def sizeG : Nat → Nat → Int → Nat
  | 0, x, _ => x
  | f + 1, x, need => if (x : Int) * 64 < need then sizeG f (2 * x) need else x
def SizeAt (need : Int) (r : Nat) (v : Value) : Prop := ∃ f x : Nat, x * 2 ^ f = 4096 ∧ v = .int .i64 x ∧ sizeG f x need = r
def mid (n lo hi : Int) : Int := if n < lo then lo else if hi < n then hi else n
theorem held_any (n lo hi : Int) (w : World) : Calls Try.prog 94 #[.int .i64 n, .int .i64 lo, .int .i64 hi] w fun e w' => e = .returned (.int .i64 (mid n lo hi)) ∧ w' = w := by
  unfold mid
  by_cases h1 : n < lo
  · rw [if_pos h1]
    go_enter Try.func94, Try.ntmps94
    go_wp2
    go_ret
    exact ⟨rfl, rfl⟩
  · rw [if_neg h1]
    by_cases h2 : hi < n
    · rw [if_pos h2]
      go_enter Try.func94, Try.ntmps94
      go_wp2
      go_ret
      exact ⟨rfl, rfl⟩
    · rw [if_neg h2]
      go_enter Try.func94, Try.ntmps94
      go_wp2
      go_ret
      exact ⟨rfl, rfl⟩
theorem mid_max (n : Int) (hi : Int) (h : 0 ≤ hi) : (if (if 0 < n then n else 0) < hi then (if 0 < n then n else 0) else hi) = mid n 0 hi := by
  unfold mid
  (repeat' split) <;> omega
theorem mid_bd (n : Int) : 0 ≤ mid n 0 1048576 ∧ mid n 0 1048576 ≤ 1048576 := by unfold mid; (repeat' split) <;> omega
theorem step_x {f x : Nat} (h : x * 2 ^ (f + 1) = 4096) : 2 * x * 2 ^ f = 4096 ∧ x ≤ 2048 ∧ 1 ≤ x := by
  have h1 : 2 * x * 2 ^ f = 4096 := by rw [← h, Nat.pow_succ]; rw [Nat.mul_comm (2 ^ f) 2, ← Nat.mul_assoc, Nat.mul_comm x 2]
  have h2 : 1 ≤ 2 ^ f := Nat.one_le_two_pow
  have h3 : 2 * x * 1 ≤ 2 * x * 2 ^ f := Nat.mul_le_mul_left _ h2
  refine ⟨h1, by omega, ?_⟩
  rcases Nat.eq_zero_or_pos x with h4 | h4
  · subst h4; simp at h1
  · exact h4
theorem need_is (rows per : Int) : wrap64 (min 1048576 (max 0 rows) * min 1048576 (max 0 per)) = mid rows 0 1048576 * mid per 0 1048576 := by
  have e1 : min 1048576 (max 0 rows) = mid rows 0 1048576 := by unfold mid; (repeat' split) <;> omega
  have e2 : min 1048576 (max 0 per) = mid per 0 1048576 := by unfold mid; (repeat' split) <;> omega
  rw [e1, e2]
  have h1 := mid_bd rows
  have h2 := mid_bd per
  generalize mid rows 0 1048576 = p at *
  generalize mid per 0 1048576 = q at *
  have h3 : 0 ≤ p * q := Int.mul_nonneg h1.1 h2.1
  have h4 : p * q ≤ 1048576 * 1048576 := Int.mul_le_mul h1.2 h2.2 h2.1 (by decide)
  generalize p * q = z at *
  exact IntWalk.wrap64_in _ ⟨by omega, by omega⟩
set_option maxRecDepth 100000 in
theorem size_any (rows per : Int) (w : World) : Calls Try.prog 52 #[.int .i64 rows, .int .i64 per] w fun e w' => e = .returned (.int .i64 (sizeG 12 1 (mid rows 0 1048576 * mid per 0 1048576) : Nat)) ∧ w' = w := by
  obtain ⟨need, hneed⟩ : ∃ need, mid rows 0 1048576 * mid per 0 1048576 = need := ⟨_, rfl⟩
  rw [hneed]
  have HN := Lib.hid hneed
  clear hneed
  go_enter Try.func52, Try.ntmps52
  go_upto_region 2 with fail
  rw [need_is, HN.out]
  go_wp2
  go_loop [6] (fun v => SizeAt need (sizeG 12 1 need) v) (fun v => 4096 - (intOf v).toNat)
  case atStart => exact ⟨12, 1, rfl, rfl, rfl⟩
  case round =>
    obtain ⟨f, x, hx, rfl, hs⟩ := hrel
    have HX := Lib.hid hx
    have HS := Lib.hid hs
    clear hx hs
    rcases f with _ | f
    · obtain rfl : x = 4096 := by have := HX.out; simpa using this
      go_wp2
      go_ret
      exact ⟨by rw [← HS.out]; rfl, rfl⟩
    · obtain ⟨h1, h2, h3⟩ := step_x HX.out
      have H1 := Lib.hid h1
      have h2' : (x : Int) ≤ 2048 := by omega
      clear h1
      by_cases hn : (x : Int) * 64 < need
      · have H2 : Hid (sizeG f (2 * x) need = sizeG 12 1 need) := Lib.hid (by rw [← HS.out]; exact (if_pos hn).symm)
        go_wp2
        refine ⟨⟨f, 2 * x, H1.out, by go_num, H2.out⟩, by simp only [intOf]; omega⟩
      · have H2 : Hid (x = sizeG 12 1 need) := Lib.hid (by rw [← HS.out]; exact (if_neg hn).symm)
        go_wp2
        go_ret
        exact ⟨by rw [← H2.out]; rfl, rfl⟩
set_option maxRecDepth 100000 in
theorem rsize_any (rows per : Int) (w : World) : Calls Try.prog 53 #[.int .i64 rows, .int .i64 per] w fun e w' => e = .returned (.int .i64 (sizeG 12 1 (mid rows 0 1048576 * mid per 0 1048576) : Nat)) ∧ w' = w := by
  have h1 := mid_bd rows
  have h2 := mid_bd per
  have HH : Hid (∀ n W, Calls Try.prog 94 #[.int .i64 n, .int .i64 0, .int .i64 1048576] W fun e w' => e = .returned (.int .i64 (mid n 0 1048576)) ∧ w' = W) := Lib.hid fun n W => held_any n 0 1048576 W
  obtain ⟨need, hneed⟩ : ∃ need, mid rows 0 1048576 * mid per 0 1048576 = need := ⟨_, rfl⟩
  have hw : wrap64 (mid rows 0 1048576 * mid per 0 1048576) = need := by
    rw [hneed]
    have h3 : 0 ≤ mid rows 0 1048576 * mid per 0 1048576 := Int.mul_nonneg h1.1 h2.1
    have h4 : mid rows 0 1048576 * mid per 0 1048576 ≤ 1048576 * 1048576 := Int.mul_le_mul h1.2 h2.2 h2.1 (by decide)
    rw [hneed] at h3 h4
    exact IntWalk.wrap64_in _ ⟨by omega, by omega⟩
  rw [hneed]
  have HW := Lib.hid hw
  clear hw hneed h1 h2
  go_enter Try.func53, Try.ntmps53
  go_upto_region 2 with (first | (go_at_call 94; refine (HH.out _ _).mono ?_; rintro e w' ⟨rfl, rfl⟩))
  rw [HW.out]
  clear HW HH
  go_wp2
  go_loop [6] (fun v => SizeAt need (sizeG 12 1 need) v) (fun v => 4096 - (intOf v).toNat)
  case atStart => exact ⟨12, 1, rfl, rfl, rfl⟩
  case round =>
    obtain ⟨f, x, hx, rfl, hs⟩ := hrel
    have HX := Lib.hid hx
    have HS := Lib.hid hs
    clear hx hs
    rcases f with _ | f
    · obtain rfl : x = 4096 := by have := HX.out; simpa using this
      go_wp2
      go_ret
      exact ⟨by rw [← HS.out]; rfl, rfl⟩
    · obtain ⟨h1, h2, h3⟩ := step_x HX.out
      have H1 := Lib.hid h1
      have h2' : (x : Int) ≤ 2048 := by omega
      clear h1
      by_cases hn : (x : Int) * 64 < need
      · have H2 : Hid (sizeG f (2 * x) need = sizeG 12 1 need) := Lib.hid (by rw [← HS.out]; exact (if_pos hn).symm)
        have hn' : 64 * (x : Int) < need := by omega
        go_wp2
        refine ⟨⟨f, 2 * x, H1.out, by go_num, H2.out⟩, by simp only [intOf]; omega⟩
      · have H2 : Hid (x = sizeG 12 1 need) := Lib.hid (by rw [← HS.out]; exact (if_neg hn).symm)
        have hn' : need ≤ 64 * (x : Int) := by omega
        go_wp2
        go_ret
        exact ⟨by rw [← H2.out]; rfl, rfl⟩
end Go.Proofs.Ythngafgblehpoaa
