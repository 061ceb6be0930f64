/- Layer 26: quotients of 128 bits, and parts of counts. -/
import Derived.Test.YtlnpiemnkpogfaaSat2
import Derived.Test.YtlnpiemnkpogfaaDivMath
import Derived.IntWalk
namespace Go.Proofs.Ytlnpiemnkpogfaa
open Go.RowKit
attribute [local go_sem] more_cell more_frozen more_more more_setCell more_of_drew more_of_drewN lt_more le_more past_cell past_cell2 past_frozen past_frozen2 past_setCell past_setCell2 mid_cell mid_frozen mid_setCell
attribute [local go_sem ↓] Go.wp_at_zero Go.wp_at_succ

theorem lead_any (y : Int) (s : Nat) (hs : (64 : Int) - (Lib.bitLen y.toNat : Int) = s) (h0 : 0 ≤ y) (h1 : y ≤ 18446744073709551615) (w : World) : Calls Try.prog 87 #[.int .u64 y] w fun e w' => e = .returned (.int .i64 (s : Int)) ∧ w' = w := by
  refine (Try.bits_LeadingZeros64 y w h0 h1).mono fun e w' ⟨he, hw⟩ => ⟨?_, hw⟩
  rw [he, ← hs]
def QuoIs (q : Int) (w : World) (e : Ending) (w' : World) : Prop := ∃ r : Int, e = .returned (.tuple #[.int .u64 q, .int .u64 r]) ∧ w' = w
theorem und (x d q z : Int) (h : x * 4294967296 + d - z = q) (q0 : 0 ≤ q) (q1 : q < 18446744073709551616) : IntKind.u64.wrap (IntKind.u64.wrap (IntKind.u64.wrap (x * 4294967296) + d) - IntKind.u64.wrap z) = q := by
  simp only [IntKind.wrap_u64]
  omega
set_option maxHeartbeats 1000000 in
theorem div_long (hi lo y Y a b H1 L1 U T d0 d1 Q1 Q2 R1 : Int) (h0 : 0 < hi) (h1 : hi < y) (hy : y < 18446744073709551616) (s : Nat) (hs : (64 : Int) - (Lib.bitLen y.toNat : Int) = s) (hs63 : s ≤ 63)
    (hY : IntKind.u64.wrap (y * 2 ^ s) = Y) (Y0 : 9223372036854775808 ≤ Y) (Y1 : Y < 18446744073709551616) (ha : Y / 4294967296 = a) (hb : bits .and .u64 Y 4294967295 = b) (hb' : b = Y % 4294967296)
    (hH : IntKind.u64.wrap (hi * 2 ^ s) = H1) (hL : lo / 2 ^ (64 - s) = L1) (hU : bits .or .u64 H1 L1 = U) (U0 : 0 ≤ U) (U1 : U < Y) (hT : IntKind.u64.wrap (lo * 2 ^ s) = T)
    (hd1 : T / 4294967296 = d1) (hd0 : bits .and .u64 T 4294967295 = d0) (D10 : 0 ≤ d1) (D11 : d1 < 4294967296) (D00 : 0 ≤ d0) (D01 : d0 < 4294967296)
    (hQ1 : (U * 4294967296 + d1) / Y = Q1) (hR1 : (U * 4294967296 + d1) % Y = R1) (hQ2 : (R1 * 4294967296 + d0) / Y = Q2) (w : World) :
    Calls Try.prog 75 #[.int .u64 hi, .int .u64 lo, .int .u64 y] w (QuoIs (Q1 * 4294967296 + Q2) w) := by
  have HS := Lib.hid hs
  clear hs
  have HQ1 := Lib.hid hQ1
  have HQ2 := Lib.hid hQ2
  have HR1 := Lib.hid hR1
  have HB := Lib.hid hb'
  clear hQ1 hQ2 hR1 hb'
  have a0 : 2147483648 ≤ a := by omega
  have a1 : a < 4294967296 := by omega
  have b0 : 0 ≤ b := by have := HB.out; omega
  have b1 : b < 4294967296 := by have := HB.out; omega
  have HY : Hid (Y = a * 4294967296 + b) := Lib.hid (by have := HB.out; omega)
  have hw1 : IntKind.u64.wrap (s : Int) = s := IntWalk.u64_in _ (by omega)
  have hw2 : IntKind.u64.wrap (64 - (s : Int)) = 64 - (s : Int) := IntWalk.u64_in _ (by omega)
  have hm1 : min ((s : Int)).toNat 64 = s := by omega
  have hm2 : min (64 - (s : Int)).toNat 64 = 64 - s := by omega
  have f0 : Digit U d1 a b (U / a) (U % a) := digit_first U0 D11 (by omega) b0
  have f1 : U / a ≤ 8589934592 := digit_q f0 (by omega) a0
  have f2 : 0 ≤ U / a := f0.q0
  have f3 : U % a < a := Int.emod_lt_of_pos _ (by omega)
  have f4 : IntKind.u64.wrap (U - IntKind.u64.wrap (U / a * a)) = U % a := by
    have e := f0.rr
    have e2 := f0.r0
    simp only [IntKind.wrap_u64]
    generalize U / a * a = z at e
    omega
  have HF := Lib.hid f0
  clear f0
  have hYp : 0 < Y := by omega
  have r0 : 0 ≤ R1 := by rw [← HR1.out]; exact Int.emod_nonneg _ (by omega)
  have r1 : R1 < Y := by rw [← HR1.out]; exact Int.emod_lt_of_pos _ hYp
  have hund : IntKind.u64.wrap (IntKind.u64.wrap (IntKind.u64.wrap (U * 4294967296) + d1) - IntKind.u64.wrap (Q1 * Y)) = R1 := by
    have e := Int.mul_ediv_add_emod (U * 4294967296 + d1) Y
    rw [HQ1.out, HR1.out, Int.mul_comm] at e
    exact und _ _ _ _ (by omega) r0 (by omega)
  have q10 : 0 ≤ Q1 := by rw [← HQ1.out]; exact Int.ediv_nonneg (by omega) (by omega)
  have q11 : Q1 < 4294967296 := by rw [← HQ1.out]; exact Int.ediv_lt_of_lt_mul hYp (by have := Int.mul_le_mul_of_nonneg_left (by omega : U + 1 ≤ Y) (by omega : (0:Int) ≤ 4294967296); omega)
  have q20 : 0 ≤ Q2 := by rw [← HQ2.out]; exact Int.ediv_nonneg (by omega) (by omega)
  have q21 : Q2 < 4294967296 := by rw [← HQ2.out]; exact Int.ediv_lt_of_lt_mul hYp (by have := Int.mul_le_mul_of_nonneg_left (by omega : R1 + 1 ≤ Y) (by omega : (0:Int) ≤ 4294967296); omega)
  have k0 : Digit R1 d0 a b (R1 / a) (R1 % a) := digit_first r0 D01 (by omega) b0
  have k1 : R1 / a ≤ 8589934592 := digit_q k0 (by omega) a0
  have k2 : 0 ≤ R1 / a := k0.q0
  have k3 : R1 % a < a := Int.emod_lt_of_pos _ (by omega)
  have k4 : IntKind.u64.wrap (R1 - IntKind.u64.wrap (R1 / a * a)) = R1 % a := by
    have e := k0.rr
    have e2 := k0.r0
    simp only [IntKind.wrap_u64]
    generalize R1 / a * a = z at e
    omega
  have HK := Lib.hid k0
  clear k0
  go_enter Try.func75, Try.ntmps75
  go_wp2_with (go_at_call 87; refine (lead_any _ s HS.out (by omega) (by omega) _).mono ?_; rintro e w' ⟨rfl, rfl⟩)
  go_loop [15, 16] (fun q r => ∃ Q R : Int, q = .int .u64 Q ∧ r = .int .u64 R ∧ Digit U d1 a b Q R ∧ R < 4294967296) (fun q _ => (intOf q).toNat)
  case atStart => exact ⟨_, _, rfl, rfl, HF.out, by omega⟩
  case round =>
    obtain ⟨q, r, rfl, rfl, hD, hr⟩ := hrel
    have g0 := hD.q0
    have g1 := hD.r0
    have g2 := digit_q hD (by omega) a0
    have HD := Lib.hid hD
    clear hD
    have hp0 : 0 ≤ q * b := Int.mul_nonneg g0 b0
    by_cases hbig : 4294967296 ≤ q
    · have ho := digit_over HD.out (by have := HY.out; omega) (by omega) (by omega) (by omega) (by omega) (Or.inl hbig)
      have HO := Lib.hid ho.1
      have hq1 := ho.2
      clear ho
      by_cases hbr : 4294967296 ≤ r + a
      · have hqm : q - 1 = Q1 := (digit_quo HO.out (digit_break HO.out (by have := HY.out; omega) (by omega) (by omega) (by omega) (by omega) hbr)).symm.trans (by rw [← HY.out]; exact HQ1.out)
        clear hp0
        clear HD
        go_wp2
        go_loop [18, 16] (fun q r => ∃ Q R : Int, q = .int .u64 Q ∧ r = .int .u64 R ∧ Digit R1 d0 a b Q R ∧ R < 4294967296) (fun q _ => (intOf q).toNat)
        case atStart => exact ⟨_, _, rfl, rfl, HK.out, by omega⟩
        case round =>
          obtain ⟨q, r, rfl, rfl, hD, hr⟩ := hrel
          have g0 := hD.q0
          have g1 := hD.r0
          have g2 := digit_q hD (by omega) a0
          have HD2 := Lib.hid hD
          clear hD
          have hp0 : 0 ≤ q * b := Int.mul_nonneg g0 b0
          by_cases hbig2 : 4294967296 ≤ q
          · have ho := digit_over HD2.out (by have := HY.out; omega) (by omega) (by omega) (by omega) (by omega) (Or.inl hbig2)
            have HO2 := Lib.hid ho.1
            have hq1 := ho.2
            clear ho
            by_cases hbr2 : 4294967296 ≤ r + a
            · have hqm : q - 1 = Q2 := (digit_quo HO2.out (digit_break HO2.out (by have := HY.out; omega) (by omega) (by omega) (by omega) (by omega) hbr2)).symm.trans (by rw [← HY.out]; exact HQ2.out)
              clear hp0
              go_wp2
              go_ret2
              exact ⟨_, rfl, rfl⟩
            · clear hp0
              go_wp2
              case roundEnd => exact ⟨⟨_, _, rfl, rfl, HO2.out, by omega⟩, by simp only [intOf]; omega⟩
          · have hpq : q * b ≤ 4294967296 * b := Int.mul_le_mul_of_nonneg_right (by omega) b0
            have hpw : IntKind.u64.wrap (q * b) = q * b := IntWalk.u64_in _ (by omega)
            by_cases ht2 : 4294967296 * r + d0 < q * b
            · have ho := digit_over HD2.out (by have := HY.out; omega) (by omega) (by omega) (by omega) (by omega) (Or.inr ht2)
              have HO2 := Lib.hid ho.1
              have hq1 := ho.2
              clear ho
              by_cases hbr2 : 4294967296 ≤ r + a
              · have hqm : q - 1 = Q2 := (digit_quo HO2.out (digit_break HO2.out (by have := HY.out; omega) (by omega) (by omega) (by omega) (by omega) hbr2)).symm.trans (by rw [← HY.out]; exact HQ2.out)
                go_wp2
                go_ret2
                exact ⟨_, rfl, rfl⟩
              · go_wp2
                case roundEnd => exact ⟨⟨_, _, rfl, rfl, HO2.out, by omega⟩, by simp only [intOf]; omega⟩
            · obtain rfl : q = Q2 := (digit_quo HD2.out (by omega)).symm.trans (by rw [← HY.out]; exact HQ2.out)
              go_wp2
              go_ret2
              exact ⟨_, rfl, rfl⟩
      · clear hp0
        go_wp2
        case roundEnd => exact ⟨⟨_, _, rfl, rfl, HO.out, by omega⟩, by simp only [intOf]; omega⟩
    · have hpq : q * b ≤ 4294967296 * b := Int.mul_le_mul_of_nonneg_right (by omega) b0
      have hpw : IntKind.u64.wrap (q * b) = q * b := IntWalk.u64_in _ (by omega)
      by_cases ht : 4294967296 * r + d1 < q * b
      · have ho := digit_over HD.out (by have := HY.out; omega) (by omega) (by omega) (by omega) (by omega) (Or.inr ht)
        have HO := Lib.hid ho.1
        have hq1 := ho.2
        clear ho
        by_cases hbr : 4294967296 ≤ r + a
        · have hqm : q - 1 = Q1 := (digit_quo HO.out (digit_break HO.out (by have := HY.out; omega) (by omega) (by omega) (by omega) (by omega) hbr)).symm.trans (by rw [← HY.out]; exact HQ1.out)
          clear HD
          go_wp2
          go_loop [18, 16] (fun q r => ∃ Q R : Int, q = .int .u64 Q ∧ r = .int .u64 R ∧ Digit R1 d0 a b Q R ∧ R < 4294967296) (fun q _ => (intOf q).toNat)
          case atStart => exact ⟨_, _, rfl, rfl, HK.out, by omega⟩
          case round =>
            obtain ⟨q, r, rfl, rfl, hD, hr⟩ := hrel
            have g0 := hD.q0
            have g1 := hD.r0
            have g2 := digit_q hD (by omega) a0
            have HD2 := Lib.hid hD
            clear hD
            have hp0 : 0 ≤ q * b := Int.mul_nonneg g0 b0
            by_cases hbig2 : 4294967296 ≤ q
            · have ho := digit_over HD2.out (by have := HY.out; omega) (by omega) (by omega) (by omega) (by omega) (Or.inl hbig2)
              have HO2 := Lib.hid ho.1
              have hq1 := ho.2
              clear ho
              by_cases hbr2 : 4294967296 ≤ r + a
              · have hqm : q - 1 = Q2 := (digit_quo HO2.out (digit_break HO2.out (by have := HY.out; omega) (by omega) (by omega) (by omega) (by omega) hbr2)).symm.trans (by rw [← HY.out]; exact HQ2.out)
                clear hp0
                go_wp2
                go_ret2
                exact ⟨_, rfl, rfl⟩
              · clear hp0
                go_wp2
                case roundEnd => exact ⟨⟨_, _, rfl, rfl, HO2.out, by omega⟩, by simp only [intOf]; omega⟩
            · have hpq : q * b ≤ 4294967296 * b := Int.mul_le_mul_of_nonneg_right (by omega) b0
              have hpw : IntKind.u64.wrap (q * b) = q * b := IntWalk.u64_in _ (by omega)
              by_cases ht2 : 4294967296 * r + d0 < q * b
              · have ho := digit_over HD2.out (by have := HY.out; omega) (by omega) (by omega) (by omega) (by omega) (Or.inr ht2)
                have HO2 := Lib.hid ho.1
                have hq1 := ho.2
                clear ho
                by_cases hbr2 : 4294967296 ≤ r + a
                · have hqm : q - 1 = Q2 := (digit_quo HO2.out (digit_break HO2.out (by have := HY.out; omega) (by omega) (by omega) (by omega) (by omega) hbr2)).symm.trans (by rw [← HY.out]; exact HQ2.out)
                  go_wp2
                  go_ret2
                  exact ⟨_, rfl, rfl⟩
                · go_wp2
                  case roundEnd => exact ⟨⟨_, _, rfl, rfl, HO2.out, by omega⟩, by simp only [intOf]; omega⟩
              · obtain rfl : q = Q2 := (digit_quo HD2.out (by omega)).symm.trans (by rw [← HY.out]; exact HQ2.out)
                go_wp2
                go_ret2
                exact ⟨_, rfl, rfl⟩
        · go_wp2
          case roundEnd => exact ⟨⟨_, _, rfl, rfl, HO.out, by omega⟩, by simp only [intOf]; omega⟩
      · obtain rfl : q = Q1 := (digit_quo HD.out (by omega)).symm.trans (by rw [← HY.out]; exact HQ1.out)
        clear HD
        go_wp2
        go_loop [18, 16] (fun q r => ∃ Q R : Int, q = .int .u64 Q ∧ r = .int .u64 R ∧ Digit R1 d0 a b Q R ∧ R < 4294967296) (fun q _ => (intOf q).toNat)
        case atStart => exact ⟨_, _, rfl, rfl, HK.out, by omega⟩
        case round =>
          obtain ⟨q, r, rfl, rfl, hD, hr⟩ := hrel
          have g0 := hD.q0
          have g1 := hD.r0
          have g2 := digit_q hD (by omega) a0
          have HD2 := Lib.hid hD
          clear hD
          have hp0 : 0 ≤ q * b := Int.mul_nonneg g0 b0
          by_cases hbig2 : 4294967296 ≤ q
          · have ho := digit_over HD2.out (by have := HY.out; omega) (by omega) (by omega) (by omega) (by omega) (Or.inl hbig2)
            have HO2 := Lib.hid ho.1
            have hq1 := ho.2
            clear ho
            by_cases hbr2 : 4294967296 ≤ r + a
            · have hqm : q - 1 = Q2 := (digit_quo HO2.out (digit_break HO2.out (by have := HY.out; omega) (by omega) (by omega) (by omega) (by omega) hbr2)).symm.trans (by rw [← HY.out]; exact HQ2.out)
              clear hp0
              go_wp2
              go_ret2
              exact ⟨_, rfl, rfl⟩
            · clear hp0
              go_wp2
              case roundEnd => exact ⟨⟨_, _, rfl, rfl, HO2.out, by omega⟩, by simp only [intOf]; omega⟩
          · have hpq : q * b ≤ 4294967296 * b := Int.mul_le_mul_of_nonneg_right (by omega) b0
            have hpw : IntKind.u64.wrap (q * b) = q * b := IntWalk.u64_in _ (by omega)
            by_cases ht2 : 4294967296 * r + d0 < q * b
            · have ho := digit_over HD2.out (by have := HY.out; omega) (by omega) (by omega) (by omega) (by omega) (Or.inr ht2)
              have HO2 := Lib.hid ho.1
              have hq1 := ho.2
              clear ho
              by_cases hbr2 : 4294967296 ≤ r + a
              · have hqm : q - 1 = Q2 := (digit_quo HO2.out (digit_break HO2.out (by have := HY.out; omega) (by omega) (by omega) (by omega) (by omega) hbr2)).symm.trans (by rw [← HY.out]; exact HQ2.out)
                go_wp2
                go_ret2
                exact ⟨_, rfl, rfl⟩
              · go_wp2
                case roundEnd => exact ⟨⟨_, _, rfl, rfl, HO2.out, by omega⟩, by simp only [intOf]; omega⟩
            · obtain rfl : q = Q2 := (digit_quo HD2.out (by omega)).symm.trans (by rw [← HY.out]; exact HQ2.out)
              go_wp2
              go_ret2
              exact ⟨_, rfl, rfl⟩
end Go.Proofs.Ytlnpiemnkpogfaa
