/- Layer 26: quotients of 128 bits whatever they are, parts of counts, quotients and digits, by the program and by the document's own answer. -/
import Derived.Test.YtlnpiemnkpogfaaDiv
import Derived.Test.YtlnpiemnkpogfaaCostMath
import Derived.Laws.BitsAllLaws
namespace Go.Proofs.Ytlnpiemnkpogfaa
open Go.RowKit
attribute [local go_sem] more_cell more_frozen more_more more_setCell more_of_drew more_of_drewN lt_more le_more past_cell past_cell2 past_frozen past_frozen2 past_setCell past_setCell2 mid_cell mid_frozen mid_setCell
attribute [local go_sem ↓] Go.wp_at_zero Go.wp_at_succ

theorem bitLen_log (y : Nat) (h0 : y ≠ 0) (h1 : y < 18446744073709551616) : Lib.bitLen y = y.log2 + 1 := by
  have h2 : 2 ^ y.log2 ≤ y := Nat.log2_self_le h0
  have h3 : y < 2 ^ (y.log2 + 1) := Nat.lt_log2_self
  rw [Lib.bitLen_shift y.log2 y h2 h1]
  have h4 : y / 2 ^ y.log2 = 1 := by
    have a1 : 1 ≤ y / 2 ^ y.log2 := (Nat.le_div_iff_mul_le (Nat.two_pow_pos _)).2 (by omega)
    have a2 : y / 2 ^ y.log2 < 2 := (Nat.div_lt_iff_lt_mul (Nat.two_pow_pos _)).2 (by rw [Nat.pow_succ] at h3; omega)
    omega
  rw [h4]
  have : Lib.bitLen 1 = 1 := by decide
  rw [this]
theorem and_mask (x : Int) (h0 : 0 ≤ x) (h1 : x < 18446744073709551616) : bits .and .u64 x 4294967295 = x % 4294967296 := by
  rw [u64_and x 4294967295 h0 h1 (by omega) (by omega)]
  have : (4294967295 : Int).toNat = 2 ^ 32 - 1 := by decide
  rw [this, Nat.and_two_pow_sub_one_eq_mod]
  omega
theorem or_shift (x z : Int) (s : Nat) (h0 : 0 ≤ x) (h1 : x * 2 ^ s < 18446744073709551616) (z0 : 0 ≤ z) (z1 : z < 2 ^ s) (hs : s ≤ 63) : bits .or .u64 (x * 2 ^ s) z = x * 2 ^ s + z := by
  have hp : (0 : Int) < 2 ^ s := Int.pow_pos (by omega)
  have hx : 0 ≤ x * 2 ^ s := Int.mul_nonneg h0 (by omega)
  have hz : z < 18446744073709551616 := by
    have : (2 : Int) ^ s ≤ 9223372036854775808 := by
      have h : ((2 ^ s : Nat) : Int) ≤ ((9223372036854775808 : Nat) : Int) := Int.ofNat_le.2 (Nat.pow_le_pow_right (by omega : 0 < 2) hs)
      rw [Int.natCast_pow] at h
      exact h
    omega
  rw [u64_or _ _ hx h1 z0 hz]
  obtain ⟨X, rfl⟩ := Int.eq_ofNat_of_zero_le h0
  obtain ⟨Z, rfl⟩ := Int.eq_ofNat_of_zero_le z0
  have e1 : ((X : Int) * 2 ^ s).toNat = X <<< s := by
    rw [Nat.shiftLeft_eq]
    have : (X : Int) * 2 ^ s = ((X * 2 ^ s : Nat) : Int) := by push_cast; rfl
    rw [this, Int.toNat_natCast]
  have hZ : Z < 2 ^ s := by
    have h : (Z : Int) < ((2 ^ s : Nat) : Int) := by push_cast; exact z1
    exact Int.ofNat_lt.1 h
  rw [e1, Int.toNat_natCast, ← Nat.shiftLeft_add_eq_or_of_lt hZ, Nat.shiftLeft_eq]
  push_cast
  rfl
theorem ediv_lt {a b c : Int} (hb : 0 < b) (h : a < c * b) : a / b < c := Int.ediv_lt_of_lt_mul hb h
/-- A quotient of 128 bits by 64. -/
def QuoG (q : Int) (w : World) (e : Ending) (w' : World) : Prop := ∃ r : Int, e = .returned (.tuple #[.int .u64 q, .int .u64 r]) ∧ Grew w w'
theorem div_short (lo y : Int) (y0 : 0 < y) (hy : y < 18446744073709551616) (l0 : 0 ≤ lo) (l1 : lo < 18446744073709551616) (w : World) :
    Calls Try.prog 75 #[.int .u64 0, .int .u64 lo, .int .u64 y] w (QuoG (lo / y) w) := by
  have q0 : 0 ≤ lo / y := Int.ediv_nonneg l0 (by omega)
  have q1 : lo / y ≤ lo := Int.ediv_le_self _ l0
  have hyb : (y == 0) = false := by rw [beq_eq_false_iff_ne]; omega
  go_enter Try.func75, Try.ntmps75
  go_wp2
  go_quiet (fail)
  go_wp2
  go_ret2
  exact ⟨_, rfl, (Grew.refl w).drewN _⟩
theorem div_any (hi lo y : Int) (h0 : 0 ≤ hi) (h1 : hi < y) (hy : y < 18446744073709551616) (l0 : 0 ≤ lo) (l1 : lo < 18446744073709551616) (w : World) :
    Calls Try.prog 75 #[.int .u64 hi, .int .u64 lo, .int .u64 y] w (QuoG ((hi * 18446744073709551616 + lo) / y) w) := by
  by_cases hz : hi = 0
  · subst hz
    rw [Int.zero_mul, Int.zero_add]
    exact div_short lo y h1 hy l0 l1 w
  obtain ⟨Y0, hY0⟩ := Int.eq_ofNat_of_zero_le (show 0 ≤ y by omega)
  have k0 : Y0 ≠ 0 := by omega
  have k1 : Y0.log2 < 64 := (Nat.log2_lt k0).2 (by omega)
  have k2 : 2 ^ Y0.log2 ≤ Y0 := Nat.log2_self_le k0
  have k3 : Y0 < 2 ^ (Y0.log2 + 1) := Nat.lt_log2_self
  obtain ⟨s, hs⟩ : ∃ s, s + Y0.log2 = 63 := ⟨63 - Y0.log2, by omega⟩
  have m1 : 9223372036854775808 ≤ Y0 * 2 ^ s := by
    have := Nat.mul_le_mul_right (2 ^ s) k2
    rw [← Nat.pow_add, Nat.add_comm, hs] at this
    exact this
  have m2 : Y0 * 2 ^ s < 18446744073709551616 := by
    have := Nat.mul_lt_mul_of_pos_right k3 (Nat.two_pow_pos s)
    rw [← Nat.pow_add, show Y0.log2 + 1 + s = 64 by omega] at this
    exact this
  have eY : y * 2 ^ s = ((Y0 * 2 ^ s : Nat) : Int) := by rw [hY0]; push_cast; rfl
  have hp : (0 : Int) < 2 ^ s := Int.pow_pos (by omega)
  have hpq : (2 : Int) ^ s * 2 ^ (64 - s) = 18446744073709551616 := by rw [← Int.pow_add, show s + (64 - s) = 64 by omega]; decide
  have hq : (0 : Int) < 2 ^ (64 - s) := Int.pow_pos (by omega)
  have n1 : hi * 2 ^ s < y * 2 ^ s := Int.mul_lt_mul_of_pos_right h1 hp
  have n0 : 0 ≤ hi * 2 ^ s := Int.mul_nonneg h0 (by omega)
  have c0 : 0 ≤ lo / 2 ^ (64 - s) := Int.ediv_nonneg l0 (by omega)
  have c1 : lo / 2 ^ (64 - s) < 2 ^ s := ediv_lt hq (by rw [hpq]; exact l1)
  have n2 : hi * 2 ^ s + 2 ^ s ≤ y * 2 ^ s := by
    have := Int.mul_le_mul_of_nonneg_right (by omega : hi + 1 ≤ y) (by omega : (0 : Int) ≤ 2 ^ s)
    rw [Int.add_mul, Int.one_mul] at this
    exact this
  have hor := or_shift hi (lo / 2 ^ (64 - s)) s h0 (by omega) c0 c1 (by omega)
  have hwl : IntKind.u64.wrap (lo * 2 ^ s) = lo % 2 ^ (64 - s) * 2 ^ s := by
    rw [IntKind.wrap_u64]
    have e := Int.mul_ediv_add_emod lo (2 ^ (64 - s))
    have e2 : lo * 2 ^ s = lo % 2 ^ (64 - s) * 2 ^ s + (lo / 2 ^ (64 - s)) * 18446744073709551616 := by
      rw [← hpq, ← Int.mul_assoc, Int.mul_comm (lo / 2 ^ (64 - s)) (2 ^ s), Int.mul_assoc (2 ^ s), Int.mul_comm (2 ^ s) (lo / 2 ^ (64 - s) * _), ← Int.add_mul]
      congr 1
      rw [Int.mul_comm (lo / 2 ^ (64 - s))]
      omega
    have e3 : lo % 2 ^ (64 - s) * 2 ^ s < 18446744073709551616 := by
      rw [← hpq, Int.mul_comm (2 ^ s)]
      exact Int.mul_lt_mul_of_pos_right (Int.emod_lt_of_pos _ hq) hp
    have e4 : 0 ≤ lo % 2 ^ (64 - s) * 2 ^ s := Int.mul_nonneg (Int.emod_nonneg _ (by omega)) (by omega)
    rw [e2]
    generalize lo % 2 ^ (64 - s) * 2 ^ s = z at *
    omega
  have t0 : 0 ≤ lo % 2 ^ (64 - s) * 2 ^ s := Int.mul_nonneg (Int.emod_nonneg _ (by omega)) (by omega)
  have t1 : lo % 2 ^ (64 - s) * 2 ^ s < 18446744073709551616 := by
    rw [← hpq, Int.mul_comm (2 ^ s)]
    exact Int.mul_lt_mul_of_pos_right (Int.emod_lt_of_pos _ hq) hp
  have hN : (hi * 2 ^ s + lo / 2 ^ (64 - s)) * 18446744073709551616 + lo % 2 ^ (64 - s) * 2 ^ s = (hi * 18446744073709551616 + lo) * 2 ^ s := by
    have e := Int.mul_ediv_add_emod lo (2 ^ (64 - s))
    have e1 : lo / 2 ^ (64 - s) * 18446744073709551616 = (2 ^ (64 - s) * (lo / 2 ^ (64 - s))) * 2 ^ s := by
      rw [← hpq, Int.mul_comm (2 ^ s), ← Int.mul_assoc, Int.mul_comm (lo / 2 ^ (64 - s))]
    rw [Int.add_mul, Int.add_mul, e1, Int.mul_right_comm hi, Int.add_assoc, ← Int.add_mul, e]
  have hQ : (hi * 18446744073709551616 + lo) / y = ((hi * 2 ^ s + lo / 2 ^ (64 - s)) * 18446744073709551616 + lo % 2 ^ (64 - s) * 2 ^ s) / (y * 2 ^ s) := by
    rw [hN, Int.mul_ediv_mul_of_pos_left _ _ hp]
  have hwy : IntKind.u64.wrap (y * 2 ^ s) = y * 2 ^ s := IntWalk.u64_in _ (by omega)
  have hwh : IntKind.u64.wrap (hi * 2 ^ s) = hi * 2 ^ s := IntWalk.u64_in _ (by omega)
  generalize hT : lo % 2 ^ (64 - s) * 2 ^ s = T at *
  generalize hUU : hi * 2 ^ s + lo / 2 ^ (64 - s) = U at *
  have U1 : U < y * 2 ^ s := by omega
  have U0 : 0 ≤ U := by omega
  have Yb0 : 9223372036854775808 ≤ y * 2 ^ s := by rw [eY]; omega
  have Yb1 : y * 2 ^ s < 18446744073709551616 := by rw [eY]; omega
  have hsplit := digits_quo (u := U) (d := T / 4294967296) (e := T % 4294967296) (y := y * 2 ^ s) (by omega)
  have hTT : (U * 4294967296 + T / 4294967296) * 4294967296 + T % 4294967296 = U * 18446744073709551616 + T := by omega
  rw [hTT] at hsplit
  rw [hQ, hsplit]
  refine (div_long hi lo y _ _ _ _ _ U T _ _ _ _ _ (by omega) h1 hy s ?_ (by omega) hwy Yb0 Yb1 rfl (and_mask _ (by omega) Yb1) rfl hwh rfl hor U0 U1 hwl rfl (and_mask _ t0 t1) (by omega) (by omega) (by omega) (by omega) rfl rfl rfl w).mono ?_
  · rw [hY0, Int.toNat_natCast, bitLen_log Y0 k0 (by omega)]
    omega
  · rintro e w' ⟨r, he, hw⟩
    exact ⟨r, he, hw ▸ Grew.refl w⟩
end Go.Proofs.Ytlnpiemnkpogfaa
