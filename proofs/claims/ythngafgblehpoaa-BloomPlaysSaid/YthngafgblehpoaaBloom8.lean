/- Layer 18: how many bits of a word, and of a filter, are one. No condition. -/
import Derived.Test.YthngafgblehpoaaBloom6
import Derived.Test.YthngafgblehpoaaBloom7
namespace Go.Proofs.Ythngafgblehpoaa
open Go.RowKit
attribute [local go_sem] more_cell more_frozen more_more more_setCell more_of_drew more_of_drewN lt_more le_more past_cell past_cell2 past_frozen past_frozen2 past_setCell past_setCell2 mid_cell mid_frozen mid_setCell
attribute [local go_sem ↓] Go.wp_at_zero Go.wp_at_succ

theorem ofInt_i64 (a : Nat) (ha : a < 18446744073709551616) : (BitVec.ofInt 64 (a : Int)).toNat = a := ofInt_u64 a ha
theorem i64_and127 (a : Nat) (ha : a < 9223372036854775808) : bits .and .i64 (a : Int) 127 = ((a % 128 : Nat) : Int) := by
  show IntKind.i64.wrap ((BitVec.ofInt 64 (a : Int) &&& BitVec.ofInt 64 ((127 : Nat) : Int)).toNat : Int) = _
  rw [BitVec.toNat_and, ofInt_u64 a (by omega), ofInt_u64 127 (by decide), show a &&& 127 = a % 128 from Nat.and_two_pow_sub_one_eq_mod a 7]
  exact IntWalk.i64_in _ (by omega)
theorem wrapN (a : Nat) (h : a < 18446744073709551616) : IntKind.u64.wrap (a : Int) = (a : Int) := by
  rw [wrap_u]
  exact Int.emod_eq_of_lt (by omega) (by omega)
theorem ones64 (x : Nat) (hx : x < 18446744073709551616) (w : World) : Calls Try.prog 98 #[.int .u64 x] w fun e w' => e = .returned (.int .i64 (B18.onesN 64 x : Nat)) ∧ w' = w := by
  obtain ⟨a, b, c, y, h1, h2, h3, ha, hb, hc, hy, hv, ho, hle⟩ := B18.ones_all x hx
  unfold B18.p1 at h1
  unfold B18.p2 at h2
  unfold B18.p3 at h3
  rw [show B18.mk 85 8 = 6148914691236517205 from rfl] at h1
  rw [show B18.mk 51 8 = 3689348814741910323 from rfl] at h2
  rw [show B18.mk 15 8 = 1085102592571150095 from rfl] at h3
  generalize B18.onesN 64 x = r at *
  have e1 : IntKind.u64.wrap (bits .and .u64 ((x : Int) / 2) 6148914691236517205 + bits .and .u64 (x : Int) 6148914691236517205) = (a : Int) := by
    have q1 := u64_and_nat (x / 2) 6148914691236517205 (by omega) (by decide)
    have q2 := u64_and_nat x 6148914691236517205 hx (by decide)
    rw [show ((x : Int) / 2) = ((x / 2 : Nat) : Int) by omega]
    rw [show ((6148914691236517205 : Nat) : Int) = 6148914691236517205 from rfl] at q1 q2
    rw [q1, q2, ← Int.natCast_add, h1]
    exact wrapN a ha
  have e2 : IntKind.u64.wrap (bits .and .u64 ((a : Int) / 4) 3689348814741910323 + bits .and .u64 (a : Int) 3689348814741910323) = (b : Int) := by
    have q1 := u64_and_nat (a / 4) 3689348814741910323 (by omega) (by decide)
    have q2 := u64_and_nat a 3689348814741910323 ha (by decide)
    rw [show ((a : Int) / 4) = ((a / 4 : Nat) : Int) by omega]
    rw [show ((3689348814741910323 : Nat) : Int) = 3689348814741910323 from rfl] at q1 q2
    rw [q1, q2, ← Int.natCast_add, h2]
    exact wrapN b (by omega)
  have e3 : bits .and .u64 (IntKind.u64.wrap ((b : Int) / 16 + (b : Int))) 1085102592571150095 = (c : Int) := by
    have q1 := u64_and_nat (b / 16 + b) 1085102592571150095 (by omega) (by decide)
    rw [show ((b : Int) / 16 + (b : Int)) = ((b / 16 + b : Nat) : Int) by omega, wrapN _ (by omega)]
    rw [show ((1085102592571150095 : Nat) : Int) = 1085102592571150095 from rfl] at q1
    rw [q1, h3]
  have e4 : IntKind.u64.wrap ((c : Int) + (c : Int) / 256) = (y : Int) := by
    rw [show ((c : Int) + (c : Int) / 256) = (y : Int) by omega]
    exact wrapN y (by omega)
  obtain ⟨z, hz⟩ : ∃ z, y + y / 65536 = z := ⟨_, rfl⟩
  rw [hz] at hv ho
  have e5 : IntKind.u64.wrap ((y : Int) + (y : Int) / 65536) = (z : Int) := by
    rw [show ((y : Int) + (y : Int) / 65536) = (z : Int) by omega]
    exact wrapN z (by omega)
  obtain ⟨v, hvv⟩ : ∃ v, z + z / 4294967296 = v := ⟨_, rfl⟩
  rw [hvv] at hv ho
  have e6 : IntKind.u64.wrap ((z : Int) + (z : Int) / 4294967296) = (v : Int) := by
    rw [show ((z : Int) + (z : Int) / 4294967296) = (v : Int) by omega]
    exact wrapN v (by omega)
  have e7 : IntKind.i64.wrap (v : Int) = (v : Int) := IntWalk.i64_in _ (by omega)
  have e7' : wrap64 (v : Int) = (v : Int) := IntWalk.wrap64_in _ ⟨by omega, by omega⟩
  have e8 : bits .and .i64 (v : Int) 127 = (r : Int) := by rw [i64_and127 v hv, ho]
  clear h1 h2 h3 ha hb hc hy hz hvv hx ho hv
  go_enter Try.func98, Try.ntmps98
  go_wp2
  go_ret
  exact ⟨rfl, rfl⟩
end Go.Proofs.Ythngafgblehpoaa
