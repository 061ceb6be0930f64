/- Layer 28: the rest of a share, one of two, all of them, by the program and by the document's own answer. No condition but that bits are 64. -/
import Derived.WalkKit
import Derived.Test.YtbglmcebkpkccaaGreatDoorSat2
import Derived.IntWalk
import Derived.Laws.BitsAllLaws
import Derived.Test.YtbglmcebkpkccaaGreatDoorQKA
import Derived.Laws.FloatArith

/- Division of 128 bits by 64, digit by digit of 32 bits; parts of counts. Plain arithmetic. -/
namespace Go.Proofs.YtbglmcebkpkccaaGreatDoor

/-- One digit's guess: q is no less than the digit of (u*2^32 + d) / (a*2^32 + b), r what is left of u. -/
structure Digit (u d a b q r : Int) : Prop where
  q0 : 0 ≤ q
  rr : r = u - q * a
  r0 : 0 ≤ r
  up : u * 4294967296 + d < (q + 1) * (a * 4294967296 + b)

theorem digit_first {u d a b : Int} (hu0 : 0 ≤ u) (hd : d < 4294967296) (ha : 0 < a) (hb : 0 ≤ b) : Digit u d a b (u / a) (u % a) := by
  have h1 := Int.mul_ediv_add_emod u a
  have h2 := Int.emod_nonneg u (Int.ne_of_gt ha)
  have h3 := Int.emod_lt_of_pos u ha
  have h4 : 0 ≤ u / a := Int.ediv_nonneg hu0 (by omega)
  refine ⟨h4, ?_, h2, ?_⟩
  · have := Int.mul_comm a (u / a)
    omega
  · have e : (u / a + 1) * (a * 4294967296 + b) = (a * (u / a)) * 4294967296 + a * 4294967296 + (u / a + 1) * b := by
      rw [Int.mul_add, ← Int.mul_assoc, Int.add_mul (u / a) 1 a, Int.mul_comm (u / a) a, Int.one_mul, Int.add_mul]
    have h5 : 0 ≤ (u / a + 1) * b := Int.mul_nonneg (by omega) hb
    rw [e]
    omega
/-- The test holds just if the guess is too great. -/
theorem digit_over {u d a b q r : Int} (h : Digit u d a b q r) (hu : u < a * 4294967296 + b) (hd0 : 0 ≤ d) (hd : d < 4294967296) (hu0 : 0 ≤ u) (ha : 0 < a)
    (ht : 4294967296 ≤ q ∨ 4294967296 * r + d < q * b) : Digit u d a b (q - 1) (r + a) ∧ 1 ≤ q := by
  obtain ⟨h1, h2, h3, h4⟩ := h
  have e : q * (a * 4294967296 + b) = (q * a) * 4294967296 + q * b := by rw [Int.mul_add, Int.mul_assoc]
  have key : u * 4294967296 + d < q * (a * 4294967296 + b) := by
    rcases ht with ht | ht
    · have h5 : 4294967296 * (a * 4294967296 + b) ≤ q * (a * 4294967296 + b) := Int.mul_le_mul_of_nonneg_right ht (by omega)
      omega
    · rw [e]; omega
  have hq : 1 ≤ q := by
    rcases (by omega : q = 0 ∨ 1 ≤ q) with h | h
    · subst h; omega
    · exact h
  refine ⟨⟨by omega, ?_, by omega, ?_⟩, hq⟩
  · rw [Int.sub_mul]; omega
  · rw [show q - 1 + 1 = q by omega]; exact key
theorem digit_done {u d a b q r : Int} (h : Digit u d a b q r) (hq : q * b ≤ 4294967296 * r + d) :
    q * (a * 4294967296 + b) ≤ u * 4294967296 + d := by
  obtain ⟨h1, h2, h3, h4⟩ := h
  rw [show q * (a * 4294967296 + b) = (q * a) * 4294967296 + q * b by rw [Int.mul_add, Int.mul_assoc]]
  omega
theorem digit_break {u d a b q r : Int} (h : Digit u d a b q r) (hu : u < a * 4294967296 + b) (hd0 : 0 ≤ d) (ha : 0 < a) (hb0 : 0 ≤ b) (hb : b < 4294967296) (hr : 4294967296 ≤ r) :
    q * b ≤ 4294967296 * r + d := by
  obtain ⟨h1, h2, h3, h4⟩ := h
  have hq : q < 4294967296 := by
    rcases (by omega : q < 4294967296 ∨ 4294967296 ≤ q) with h | h
    · exact h
    · have := Int.mul_le_mul_of_nonneg_right h (by omega : 0 ≤ a)
      omega
  have h5 : q * b ≤ 4294967296 * b := Int.mul_le_mul_of_nonneg_right (by omega) hb0
  omega
theorem digit_quo {u d a b q r : Int} (h : Digit u d a b q r) (hq : q * b ≤ 4294967296 * r + d) :
    (u * 4294967296 + d) / (a * 4294967296 + b) = q := by
  have h1 := digit_done h hq
  have h2 := h.up
  generalize a * 4294967296 + b = y at *
  generalize u * 4294967296 + d = U at *
  have hy : 0 < y := by
    have := h.q0
    rcases (by omega : 0 < y ∨ y ≤ 0) with h | h
    · exact h
    · have e : (q + 1) * y = q * y + y := by rw [Int.add_mul, Int.one_mul]
      omega
  have h3 : q ≤ U / y := (Int.le_ediv_iff_mul_le hy).2 h1
  have h4 : U / y < q + 1 := Int.ediv_lt_of_lt_mul hy h2
  omega
theorem digit_q {u d a b q r : Int} (h : Digit u d a b q r) (hu : u < 18446744073709551616) (ha : 2147483648 ≤ a) : q ≤ 8589934592 := by
  obtain ⟨h1, h2, h3, h4⟩ := h
  rcases (by omega : q ≤ 8589934592 ∨ 8589934592 < q) with h | h
  · exact h
  · have := Int.mul_le_mul_of_nonneg_left ha h1
    omega
/-- Two digits make the quotient. -/
theorem digits_quo {u d e y : Int} (hy : 0 < y) :
    ((u * 4294967296 + d) * 4294967296 + e) / y = (u * 4294967296 + d) / y * 4294967296 + ((u * 4294967296 + d) % y * 4294967296 + e) / y := by
  have h := Int.mul_ediv_add_emod (u * 4294967296 + d) y
  generalize u * 4294967296 + d = U at *
  generalize U / y = q at *
  generalize U % y = r at *
  subst h
  rw [show (y * q + r) * 4294967296 + e = (r * 4294967296 + e) + y * (q * 4294967296) by rw [Int.add_mul, Int.mul_assoc]; omega, Int.add_mul_ediv_left _ _ (by omega)]
  omega

/-- The bits of n, the highest first. -/
def bitI (k : Nat) : Int := 4611686018427387904 / 2 ^ k
def headI (n : Int) (k : Nat) : Int := if k = 0 then 0 else n / bitI (k - 1)
theorem bitI_half : ∀ k < 62, bitI k = 2 * bitI (k + 1) := by decide +kernel
theorem bitI_next : ∀ k < 63, bitI k / 2 = bitI (k + 1) := by decide +kernel
theorem bitI_pos : ∀ k < 63, 0 < bitI k := by decide +kernel
theorem bitI_le : ∀ k < 64, bitI k ≤ 4611686018427387904 := by decide +kernel
theorem bitI_last : bitI 62 = 1 ∧ bitI 63 = 0 := by decide +kernel
theorem headI_next (n : Int) (h0 : 0 ≤ n) (h1 : n ≤ 4611686018427387904) (k : Nat) (hk : k < 63) : headI n (k + 1) = 2 * headI n k + n / bitI k % 2 := by
  unfold headI
  rw [if_neg (by omega), Nat.add_sub_cancel]
  by_cases h : k = 0
  · subst h
    rw [if_pos rfl]
    have : bitI 0 = 4611686018427387904 := by decide +kernel
    rw [this]
    omega
  · rw [if_neg h]
    have e := bitI_half (k - 1) (by omega)
    rw [show k - 1 + 1 = k by omega] at e
    rw [e, Int.mul_comm 2 (bitI k), ← Int.ediv_ediv_of_nonneg (by have := bitI_pos k hk; omega)]
    omega
theorem headI_le (n : Int) (h0 : 0 ≤ n) (k : Nat) (hk : k ≤ 63) : 0 ≤ headI n k ∧ headI n k ≤ n := by
  unfold headI
  split
  · omega
  · have := bitI_pos (k - 1) (by omega)
    exact ⟨Int.ediv_nonneg h0 (by omega), Int.ediv_le_self _ h0⟩
theorem headI_last (n : Int) : headI n 63 = n := by
  unfold headI
  rw [if_neg (by omega), show 63 - 1 = 62 by omega, bitI_last.1]
  omega
/-- How much of n as num is of den, rounded up. -/
def partI (n num den : Int) : Int := if den ≤ num then n else (n * num + (den - 1)) / den
theorem part_up {n num den q r : Int} (h : n * num = q * den + r) (h0 : 0 ≤ r) (h1 : r < den) : (n * num + (den - 1)) / den = if 0 < r then q + 1 else q := by
  rw [h]
  split
  · rw [show q * den + r + (den - 1) = (r - 1) + (q + 1) * den by rw [Int.add_mul]; omega, Int.add_mul_ediv_right _ _ (by omega), Int.ediv_eq_zero_of_lt (by omega) (by omega)]
    omega
  · rw [show q * den + r + (den - 1) = (den - 1) + q * den by omega, Int.add_mul_ediv_right _ _ (by omega), Int.ediv_eq_zero_of_lt (by omega) (by omega)]
    omega
theorem partI_s {n num den : Int} (hn : 0 ≤ n) (h0 : 0 ≤ num) : 0 ≤ partI n num den ∧ partI n num den ≤ n := by
  unfold partI
  split
  · omega
  · have hd : 0 < den := by omega
    have h1 := Int.mul_nonneg hn h0
    refine ⟨Int.ediv_nonneg (by omega) (by omega), ?_⟩
    have h2 : n * num ≤ n * (den - 1) := Int.mul_le_mul_of_nonneg_left (by omega) hn
    rw [Int.mul_sub, Int.mul_one] at h2
    by_cases hz : n = 0
    · subst hz
      rw [Int.zero_mul, Int.ediv_eq_zero_of_lt (by omega) (by omega)]
      omega
    · have h3 : (n * num + (den - 1)) / den < n + 1 := Int.ediv_lt_of_lt_mul hd (by rw [Int.add_mul, Int.one_mul]; omega)
      omega
/-- More of it is not less. -/
theorem partI_mono {n num num' den : Int} (hn : 0 ≤ n) (h0 : 0 ≤ num) (h : num ≤ num') (hd : 0 < den) : partI n num den ≤ partI n num' den := by
  unfold partI
  by_cases h1 : den ≤ num'
  · rw [if_pos h1]
    have := (partI_s (den := den) hn h0).2
    unfold partI at this
    exact this
  · rw [if_neg h1, if_neg (by omega)]
    have h2 := Int.mul_le_mul_of_nonneg_left h hn
    exact Int.ediv_le_ediv hd (by omega)
theorem partI_mono_n {n n' num den : Int} (h : n ≤ n') (h0 : 0 ≤ num) (hd : 0 < den) : partI n num den ≤ partI n' num den := by
  unfold partI
  split
  · exact h
  · have h2 := Int.mul_le_mul_of_nonneg_right h h0
    exact Int.ediv_le_ediv hd (by omega)
end Go.Proofs.YtbglmcebkpkccaaGreatDoor

/- Layer 26: quotients of 128 bits, and parts of counts. -/
namespace Go.Proofs.YtbglmcebkpkccaaGreatDoor
open Go.RowKit
attribute [local go_sem] more_cell more_frozen more_more more_setCell more_of_drew more_of_drewN lt_more le_more past_cell past_cell2 past_frozen past_frozen2 past_setCell past_setCell2 mid_cell mid_frozen mid_setCell
attribute [local go_sem ↓] Go.wp_at_zero Go.wp_at_succ

theorem lead_any (y : Int) (s : Nat) (hs : (64 : Int) - (Lib.bitLen y.toNat : Int) = s) (h0 : 0 ≤ y) (h1 : y ≤ 18446744073709551615) (w : World) : Calls Tryz.prog 128 #[.int .u64 y] w fun e w' => e = .returned (.int .i64 (s : Int)) ∧ w' = w := by
  refine (Tryz.bits_LeadingZeros64 y w h0 h1).mono fun e w' ⟨he, hw⟩ => ⟨?_, hw⟩
  rw [he, ← hs]
def QuoIs (q : Int) (w : World) (e : Ending) (w' : World) : Prop := ∃ r : Int, e = .returned (.tuple #[.int .u64 q, .int .u64 r]) ∧ w' = w
theorem und (x d q z : Int) (h : x * 4294967296 + d - z = q) (q0 : 0 ≤ q) (q1 : q < 18446744073709551616) : IntKind.u64.wrap (IntKind.u64.wrap (IntKind.u64.wrap (x * 4294967296) + d) - IntKind.u64.wrap z) = q := by
  simp only [IntKind.wrap_u64]
  omega
set_option maxHeartbeats 1000000 in
theorem div_long (hi lo y Y a b H1 L1 U T d0 d1 Q1 Q2 R1 : Int) (h0 : 0 < hi) (h1 : hi < y) (hy : y < 18446744073709551616) (s : Nat) (hs : (64 : Int) - (Lib.bitLen y.toNat : Int) = s) (hs63 : s ≤ 63)
    (hY : IntKind.u64.wrap (y * 2 ^ s) = Y) (Y0 : 9223372036854775808 ≤ Y) (Y1 : Y < 18446744073709551616) (ha : Y / 4294967296 = a) (hb : bits .and .u64 Y 4294967295 = b) (hb' : b = Y % 4294967296)
    (hH : IntKind.u64.wrap (hi * 2 ^ s) = H1) (hL : lo / 2 ^ (64 - s) = L1) (hU : bits .or .u64 H1 L1 = U) (U0 : 0 ≤ U) (U1 : U < Y) (hT : IntKind.u64.wrap (lo * 2 ^ s) = T)
    (hd1 : T / 4294967296 = d1) (hd0 : bits .and .u64 T 4294967295 = d0) (D10 : 0 ≤ d1) (D11 : d1 < 4294967296) (D00 : 0 ≤ d0) (D01 : d0 < 4294967296)
    (hQ1 : (U * 4294967296 + d1) / Y = Q1) (hR1 : (U * 4294967296 + d1) % Y = R1) (hQ2 : (R1 * 4294967296 + d0) / Y = Q2) (w : World) :
    Calls Tryz.prog 104 #[.int .u64 hi, .int .u64 lo, .int .u64 y] w (QuoIs (Q1 * 4294967296 + Q2) w) := by
  have HS := Lib.hid hs
  clear hs
  have HQ1 := Lib.hid hQ1
  have HQ2 := Lib.hid hQ2
  have HR1 := Lib.hid hR1
  have HB := Lib.hid hb'
  clear hQ1 hQ2 hR1 hb'
  have a0 : 2147483648 ≤ a := by omega
  have a1 : a < 4294967296 := by omega
  have b0 : 0 ≤ b := by have := HB.out; omega
  have b1 : b < 4294967296 := by have := HB.out; omega
  have HY : Hid (Y = a * 4294967296 + b) := Lib.hid (by have := HB.out; omega)
  have hw1 : IntKind.u64.wrap (s : Int) = s := IntWalk.u64_in _ (by omega)
  have hw2 : IntKind.u64.wrap (64 - (s : Int)) = 64 - (s : Int) := IntWalk.u64_in _ (by omega)
  have hm1 : min ((s : Int)).toNat 64 = s := by omega
  have hm2 : min (64 - (s : Int)).toNat 64 = 64 - s := by omega
  have f0 : Digit U d1 a b (U / a) (U % a) := digit_first U0 D11 (by omega) b0
  have f1 : U / a ≤ 8589934592 := digit_q f0 (by omega) a0
  have f2 : 0 ≤ U / a := f0.q0
  have f3 : U % a < a := Int.emod_lt_of_pos _ (by omega)
  have f4 : IntKind.u64.wrap (U - IntKind.u64.wrap (U / a * a)) = U % a := by
    have e := f0.rr
    have e2 := f0.r0
    simp only [IntKind.wrap_u64]
    generalize U / a * a = z at e
    omega
  have HF := Lib.hid f0
  clear f0
  have hYp : 0 < Y := by omega
  have r0 : 0 ≤ R1 := by rw [← HR1.out]; exact Int.emod_nonneg _ (by omega)
  have r1 : R1 < Y := by rw [← HR1.out]; exact Int.emod_lt_of_pos _ hYp
  have hund : IntKind.u64.wrap (IntKind.u64.wrap (IntKind.u64.wrap (U * 4294967296) + d1) - IntKind.u64.wrap (Q1 * Y)) = R1 := by
    have e := Int.mul_ediv_add_emod (U * 4294967296 + d1) Y
    rw [HQ1.out, HR1.out, Int.mul_comm] at e
    exact und _ _ _ _ (by omega) r0 (by omega)
  have q10 : 0 ≤ Q1 := by rw [← HQ1.out]; exact Int.ediv_nonneg (by omega) (by omega)
  have q11 : Q1 < 4294967296 := by rw [← HQ1.out]; exact Int.ediv_lt_of_lt_mul hYp (by have := Int.mul_le_mul_of_nonneg_left (by omega : U + 1 ≤ Y) (by omega : (0:Int) ≤ 4294967296); omega)
  have q20 : 0 ≤ Q2 := by rw [← HQ2.out]; exact Int.ediv_nonneg (by omega) (by omega)
  have q21 : Q2 < 4294967296 := by rw [← HQ2.out]; exact Int.ediv_lt_of_lt_mul hYp (by have := Int.mul_le_mul_of_nonneg_left (by omega : R1 + 1 ≤ Y) (by omega : (0:Int) ≤ 4294967296); omega)
  have k0 : Digit R1 d0 a b (R1 / a) (R1 % a) := digit_first r0 D01 (by omega) b0
  have k1 : R1 / a ≤ 8589934592 := digit_q k0 (by omega) a0
  have k2 : 0 ≤ R1 / a := k0.q0
  have k3 : R1 % a < a := Int.emod_lt_of_pos _ (by omega)
  have k4 : IntKind.u64.wrap (R1 - IntKind.u64.wrap (R1 / a * a)) = R1 % a := by
    have e := k0.rr
    have e2 := k0.r0
    simp only [IntKind.wrap_u64]
    generalize R1 / a * a = z at e
    omega
  have HK := Lib.hid k0
  clear k0
  go_enter Tryz.func104, Tryz.ntmps104
  go_wp2_with (go_at_call 128; refine (lead_any _ s HS.out (by omega) (by omega) _).mono ?_; rintro e w' ⟨rfl, rfl⟩)
  go_loop [15, 16] (fun q r => ∃ Q R : Int, q = .int .u64 Q ∧ r = .int .u64 R ∧ Digit U d1 a b Q R ∧ R < 4294967296) (fun q _ => (intOf q).toNat)
  case atStart => exact ⟨_, _, rfl, rfl, HF.out, by omega⟩
  case round =>
    obtain ⟨q, r, rfl, rfl, hD, hr⟩ := hrel
    have g0 := hD.q0
    have g1 := hD.r0
    have g2 := digit_q hD (by omega) a0
    have HD := Lib.hid hD
    clear hD
    have hp0 : 0 ≤ q * b := Int.mul_nonneg g0 b0
    by_cases hbig : 4294967296 ≤ q
    · have ho := digit_over HD.out (by have := HY.out; omega) (by omega) (by omega) (by omega) (by omega) (Or.inl hbig)
      have HO := Lib.hid ho.1
      have hq1 := ho.2
      clear ho
      by_cases hbr : 4294967296 ≤ r + a
      · have hqm : q - 1 = Q1 := (digit_quo HO.out (digit_break HO.out (by have := HY.out; omega) (by omega) (by omega) (by omega) (by omega) hbr)).symm.trans (by rw [← HY.out]; exact HQ1.out)
        clear hp0
        clear HD
        go_wp2
        go_loop [18, 16] (fun q r => ∃ Q R : Int, q = .int .u64 Q ∧ r = .int .u64 R ∧ Digit R1 d0 a b Q R ∧ R < 4294967296) (fun q _ => (intOf q).toNat)
        case atStart => exact ⟨_, _, rfl, rfl, HK.out, by omega⟩
        case round =>
          obtain ⟨q, r, rfl, rfl, hD, hr⟩ := hrel
          have g0 := hD.q0
          have g1 := hD.r0
          have g2 := digit_q hD (by omega) a0
          have HD2 := Lib.hid hD
          clear hD
          have hp0 : 0 ≤ q * b := Int.mul_nonneg g0 b0
          by_cases hbig2 : 4294967296 ≤ q
          · have ho := digit_over HD2.out (by have := HY.out; omega) (by omega) (by omega) (by omega) (by omega) (Or.inl hbig2)
            have HO2 := Lib.hid ho.1
            have hq1 := ho.2
            clear ho
            by_cases hbr2 : 4294967296 ≤ r + a
            · have hqm : q - 1 = Q2 := (digit_quo HO2.out (digit_break HO2.out (by have := HY.out; omega) (by omega) (by omega) (by omega) (by omega) hbr2)).symm.trans (by rw [← HY.out]; exact HQ2.out)
              clear hp0
              go_wp2
              go_ret2
              exact ⟨_, rfl, rfl⟩
            · clear hp0
              go_wp2
              case roundEnd => exact ⟨⟨_, _, rfl, rfl, HO2.out, by omega⟩, by simp only [intOf]; omega⟩
          · have hpq : q * b ≤ 4294967296 * b := Int.mul_le_mul_of_nonneg_right (by omega) b0
            have hpw : IntKind.u64.wrap (q * b) = q * b := IntWalk.u64_in _ (by omega)
            by_cases ht2 : 4294967296 * r + d0 < q * b
            · have ho := digit_over HD2.out (by have := HY.out; omega) (by omega) (by omega) (by omega) (by omega) (Or.inr ht2)
              have HO2 := Lib.hid ho.1
              have hq1 := ho.2
              clear ho
              by_cases hbr2 : 4294967296 ≤ r + a
              · have hqm : q - 1 = Q2 := (digit_quo HO2.out (digit_break HO2.out (by have := HY.out; omega) (by omega) (by omega) (by omega) (by omega) hbr2)).symm.trans (by rw [← HY.out]; exact HQ2.out)
                go_wp2
                go_ret2
                exact ⟨_, rfl, rfl⟩
              · go_wp2
                case roundEnd => exact ⟨⟨_, _, rfl, rfl, HO2.out, by omega⟩, by simp only [intOf]; omega⟩
            · obtain rfl : q = Q2 := (digit_quo HD2.out (by omega)).symm.trans (by rw [← HY.out]; exact HQ2.out)
              go_wp2
              go_ret2
              exact ⟨_, rfl, rfl⟩
      · clear hp0
        go_wp2
        case roundEnd => exact ⟨⟨_, _, rfl, rfl, HO.out, by omega⟩, by simp only [intOf]; omega⟩
    · have hpq : q * b ≤ 4294967296 * b := Int.mul_le_mul_of_nonneg_right (by omega) b0
      have hpw : IntKind.u64.wrap (q * b) = q * b := IntWalk.u64_in _ (by omega)
      by_cases ht : 4294967296 * r + d1 < q * b
      · have ho := digit_over HD.out (by have := HY.out; omega) (by omega) (by omega) (by omega) (by omega) (Or.inr ht)
        have HO := Lib.hid ho.1
        have hq1 := ho.2
        clear ho
        by_cases hbr : 4294967296 ≤ r + a
        · have hqm : q - 1 = Q1 := (digit_quo HO.out (digit_break HO.out (by have := HY.out; omega) (by omega) (by omega) (by omega) (by omega) hbr)).symm.trans (by rw [← HY.out]; exact HQ1.out)
          clear HD
          go_wp2
          go_loop [18, 16] (fun q r => ∃ Q R : Int, q = .int .u64 Q ∧ r = .int .u64 R ∧ Digit R1 d0 a b Q R ∧ R < 4294967296) (fun q _ => (intOf q).toNat)
          case atStart => exact ⟨_, _, rfl, rfl, HK.out, by omega⟩
          case round =>
            obtain ⟨q, r, rfl, rfl, hD, hr⟩ := hrel
            have g0 := hD.q0
            have g1 := hD.r0
            have g2 := digit_q hD (by omega) a0
            have HD2 := Lib.hid hD
            clear hD
            have hp0 : 0 ≤ q * b := Int.mul_nonneg g0 b0
            by_cases hbig2 : 4294967296 ≤ q
            · have ho := digit_over HD2.out (by have := HY.out; omega) (by omega) (by omega) (by omega) (by omega) (Or.inl hbig2)
              have HO2 := Lib.hid ho.1
              have hq1 := ho.2
              clear ho
              by_cases hbr2 : 4294967296 ≤ r + a
              · have hqm : q - 1 = Q2 := (digit_quo HO2.out (digit_break HO2.out (by have := HY.out; omega) (by omega) (by omega) (by omega) (by omega) hbr2)).symm.trans (by rw [← HY.out]; exact HQ2.out)
                clear hp0
                go_wp2
                go_ret2
                exact ⟨_, rfl, rfl⟩
              · clear hp0
                go_wp2
                case roundEnd => exact ⟨⟨_, _, rfl, rfl, HO2.out, by omega⟩, by simp only [intOf]; omega⟩
            · have hpq : q * b ≤ 4294967296 * b := Int.mul_le_mul_of_nonneg_right (by omega) b0
              have hpw : IntKind.u64.wrap (q * b) = q * b := IntWalk.u64_in _ (by omega)
              by_cases ht2 : 4294967296 * r + d0 < q * b
              · have ho := digit_over HD2.out (by have := HY.out; omega) (by omega) (by omega) (by omega) (by omega) (Or.inr ht2)
                have HO2 := Lib.hid ho.1
                have hq1 := ho.2
                clear ho
                by_cases hbr2 : 4294967296 ≤ r + a
                · have hqm : q - 1 = Q2 := (digit_quo HO2.out (digit_break HO2.out (by have := HY.out; omega) (by omega) (by omega) (by omega) (by omega) hbr2)).symm.trans (by rw [← HY.out]; exact HQ2.out)
                  go_wp2
                  go_ret2
                  exact ⟨_, rfl, rfl⟩
                · go_wp2
                  case roundEnd => exact ⟨⟨_, _, rfl, rfl, HO2.out, by omega⟩, by simp only [intOf]; omega⟩
              · obtain rfl : q = Q2 := (digit_quo HD2.out (by omega)).symm.trans (by rw [← HY.out]; exact HQ2.out)
                go_wp2
                go_ret2
                exact ⟨_, rfl, rfl⟩
        · go_wp2
          case roundEnd => exact ⟨⟨_, _, rfl, rfl, HO.out, by omega⟩, by simp only [intOf]; omega⟩
      · obtain rfl : q = Q1 := (digit_quo HD.out (by omega)).symm.trans (by rw [← HY.out]; exact HQ1.out)
        clear HD
        go_wp2
        go_loop [18, 16] (fun q r => ∃ Q R : Int, q = .int .u64 Q ∧ r = .int .u64 R ∧ Digit R1 d0 a b Q R ∧ R < 4294967296) (fun q _ => (intOf q).toNat)
        case atStart => exact ⟨_, _, rfl, rfl, HK.out, by omega⟩
        case round =>
          obtain ⟨q, r, rfl, rfl, hD, hr⟩ := hrel
          have g0 := hD.q0
          have g1 := hD.r0
          have g2 := digit_q hD (by omega) a0
          have HD2 := Lib.hid hD
          clear hD
          have hp0 : 0 ≤ q * b := Int.mul_nonneg g0 b0
          by_cases hbig2 : 4294967296 ≤ q
          · have ho := digit_over HD2.out (by have := HY.out; omega) (by omega) (by omega) (by omega) (by omega) (Or.inl hbig2)
            have HO2 := Lib.hid ho.1
            have hq1 := ho.2
            clear ho
            by_cases hbr2 : 4294967296 ≤ r + a
            · have hqm : q - 1 = Q2 := (digit_quo HO2.out (digit_break HO2.out (by have := HY.out; omega) (by omega) (by omega) (by omega) (by omega) hbr2)).symm.trans (by rw [← HY.out]; exact HQ2.out)
              clear hp0
              go_wp2
              go_ret2
              exact ⟨_, rfl, rfl⟩
            · clear hp0
              go_wp2
              case roundEnd => exact ⟨⟨_, _, rfl, rfl, HO2.out, by omega⟩, by simp only [intOf]; omega⟩
          · have hpq : q * b ≤ 4294967296 * b := Int.mul_le_mul_of_nonneg_right (by omega) b0
            have hpw : IntKind.u64.wrap (q * b) = q * b := IntWalk.u64_in _ (by omega)
            by_cases ht2 : 4294967296 * r + d0 < q * b
            · have ho := digit_over HD2.out (by have := HY.out; omega) (by omega) (by omega) (by omega) (by omega) (Or.inr ht2)
              have HO2 := Lib.hid ho.1
              have hq1 := ho.2
              clear ho
              by_cases hbr2 : 4294967296 ≤ r + a
              · have hqm : q - 1 = Q2 := (digit_quo HO2.out (digit_break HO2.out (by have := HY.out; omega) (by omega) (by omega) (by omega) (by omega) hbr2)).symm.trans (by rw [← HY.out]; exact HQ2.out)
                go_wp2
                go_ret2
                exact ⟨_, rfl, rfl⟩
              · go_wp2
                case roundEnd => exact ⟨⟨_, _, rfl, rfl, HO2.out, by omega⟩, by simp only [intOf]; omega⟩
            · obtain rfl : q = Q2 := (digit_quo HD2.out (by omega)).symm.trans (by rw [← HY.out]; exact HQ2.out)
              go_wp2
              go_ret2
              exact ⟨_, rfl, rfl⟩
end Go.Proofs.YtbglmcebkpkccaaGreatDoor

/- How many keys may pass a filter, as plain arithmetic; no less of more keys, no more of more words. -/
namespace Go.Proofs.YtbglmcebkpkccaaGreatDoor

/-- How many of 2^16 bits are unset behind k steps. -/
def unsetI : Nat → Int
  | 0 => 65536
  | k + 1 => partI (unsetI k) 63 64
def passI (u : Int) : Nat → Int
  | 0 => 65536
  | k + 1 => partI (passI u k) (65536 - u) 65536
theorem unsetI_s (k : Nat) : 0 ≤ unsetI k ∧ unsetI k ≤ 65536 := by
  induction k with
  | zero => unfold unsetI; omega
  | succ k ih =>
    have := partI_s (n := unsetI k) (num := 63) (den := 64) ih.1 (by omega)
    show 0 ≤ partI (unsetI k) 63 64 ∧ partI (unsetI k) 63 64 ≤ 65536
    omega
theorem unsetI_down {j k : Nat} (h : j ≤ k) : unsetI k ≤ unsetI j := by
  induction k with
  | zero => obtain rfl : j = 0 := by omega
            exact Int.le_refl _
  | succ k ih =>
    rcases Nat.lt_or_eq_of_le h with h | rfl
    · have := ih (by omega)
      have h2 := (partI_s (n := unsetI k) (num := 63) (den := 64) (unsetI_s k).1 (by omega)).2
      show partI (unsetI k) 63 64 ≤ _
      omega
    · exact Int.le_refl _
theorem passI_s {u : Int} (h : u ≤ 65536) (k : Nat) : 0 ≤ passI u k ∧ passI u k ≤ 65536 := by
  induction k with
  | zero => unfold passI; omega
  | succ k ih =>
    have := partI_s (n := passI u k) (num := 65536 - u) (den := 65536) ih.1 (by omega)
    show 0 ≤ partI (passI u k) (65536 - u) 65536 ∧ partI (passI u k) (65536 - u) 65536 ≤ 65536
    omega
theorem passI_up {u v : Int} (h : v ≤ u) (hu : u ≤ 65536) (k : Nat) : passI u k ≤ passI v k := by
  induction k with
  | zero => exact Int.le_refl _
  | succ k ih =>
    have h1 := passI_s hu k
    have h3 := partI_mono (n := passI u k) (num := 65536 - u) (num' := 65536 - v) (den := 65536) h1.1 (by omega) (by omega) (by omega)
    have h4 := partI_mono_n (n := passI u k) (n' := passI v k) (num := 65536 - v) (den := 65536) ih (by omega) (by omega)
    show partI (passI u k) (65536 - u) 65536 ≤ partI (passI v k) (65536 - v) 65536
    omega
/-- A number from one to another. -/
def heldI (n low high : Int) : Int := if n < low then low else if high < n then high else n
theorem heldI_s {n low high : Int} (h : low ≤ high) : low ≤ heldI n low high ∧ heldI n low high ≤ high := by
  unfold heldI; (repeat' split) <;> omega
theorem heldI_up {n m low high : Int} (h : low ≤ high) (hn : n ≤ m) : heldI n low high ≤ heldI m low high := by
  unfold heldI; (repeat' split) <;> omega
/-- A quotient, rounded up. -/
def divI (x y : Int) : Int := if x = 0 then 0 else if y = 0 then 4611686018427387904 else (x - 1) / y + 1
theorem divI_up {x x' y : Int} (hx : 0 ≤ x) (h : x ≤ x') (hy : 0 < y) : divI x y ≤ divI x' y := by
  unfold divI
  rw [if_neg (Int.ne_of_gt hy), if_neg (Int.ne_of_gt hy)]
  by_cases h0 : x = 0
  · rw [if_pos h0]
    split
    · omega
    · have : 0 ≤ (x' - 1) / y := Int.ediv_nonneg (by omega) (by omega)
      omega
  · rw [if_neg h0, if_neg (by omega)]
    have := Int.ediv_le_ediv hy (by omega : x - 1 ≤ x' - 1)
    omega
theorem divI_down {x y y' : Int} (hx : 0 ≤ x) (h : y ≤ y') (hy : 0 < y) : divI x y' ≤ divI x y := by
  unfold divI
  rw [if_neg (by omega : ¬ y = 0), if_neg (by omega : ¬ y' = 0)]
  by_cases h0 : x = 0
  · rw [if_pos h0, if_pos h0]; omega
  · rw [if_neg h0, if_neg h0]
    have h1 : y * ((x - 1) / y') ≤ x - 1 := by
      have h2 : y' * ((x - 1) / y') ≤ x - 1 := Int.mul_ediv_self_le (by omega)
      have h3 : y * ((x - 1) / y') ≤ y' * ((x - 1) / y') := Int.mul_le_mul_of_nonneg_right h (Int.ediv_nonneg (by omega) (by omega))
      omega
    have : (x - 1) / y' ≤ (x - 1) / y := (Int.le_ediv_iff_mul_le hy).2 (by rw [Int.mul_comm]; exact h1)
    omega
theorem divI_s {x y : Int} (hx : 0 ≤ x) (hx' : x ≤ 4611686018427387904) (hy : 0 ≤ y) : 0 ≤ divI x y ∧ divI x y ≤ 4611686018427387904 := by
  unfold divI
  split
  · omega
  · split
    · omega
    · have h1 : 0 ≤ (x - 1) / y := Int.ediv_nonneg (by omega) (by omega)
      have h2 : (x - 1) / y ≤ x - 1 := Int.ediv_le_self _ (by omega)
      omega
/-- Of so many words (from 1 on), bits, and steps' product p. -/
def passOf (w b p : Int) : Int := passI (unsetI (heldI (divI p w) 0 1000).toNat) b.toNat
theorem passOf_s (w b p : Int) : 0 ≤ passOf w b p ∧ passOf w b p ≤ 65536 := passI_s (unsetI_s _).2 _
theorem passOf_up {w b p p' : Int} (hw : 0 < w) (hp : 0 ≤ p) (h : p ≤ p') : passOf w b p ≤ passOf w b p' := by
  unfold passOf
  refine passI_up (unsetI_down ?_) (unsetI_s _).2 _
  have := heldI_up (n := divI p w) (m := divI p' w) (low := 0) (high := 1000) (by omega) (divI_up hp h hw)
  omega
theorem passOf_down {w w' b p : Int} (hw : 0 < w) (hp : 0 ≤ p) (h : w ≤ w') : passOf w' b p ≤ passOf w b p := by
  unfold passOf
  refine passI_up (unsetI_down ?_) (unsetI_s _).2 _
  have := heldI_up (n := divI p w') (m := divI p w) (low := 0) (high := 1000) (by omega) (divI_down hp h hw)
  omega
end Go.Proofs.YtbglmcebkpkccaaGreatDoor

/- Layer 26: quotients of 128 bits whatever they are, parts of counts, quotients and digits, by the program and by the document's own answer. -/
namespace Go.Proofs.YtbglmcebkpkccaaGreatDoor
open Go.RowKit
attribute [local go_sem] more_cell more_frozen more_more more_setCell more_of_drew more_of_drewN lt_more le_more past_cell past_cell2 past_frozen past_frozen2 past_setCell past_setCell2 mid_cell mid_frozen mid_setCell
attribute [local go_sem ↓] Go.wp_at_zero Go.wp_at_succ

theorem bitLen_log (y : Nat) (h0 : y ≠ 0) (h1 : y < 18446744073709551616) : Lib.bitLen y = y.log2 + 1 := by
  have h2 : 2 ^ y.log2 ≤ y := Nat.log2_self_le h0
  have h3 : y < 2 ^ (y.log2 + 1) := Nat.lt_log2_self
  rw [Lib.bitLen_shift y.log2 y h2 h1]
  have h4 : y / 2 ^ y.log2 = 1 := by
    have a1 : 1 ≤ y / 2 ^ y.log2 := (Nat.le_div_iff_mul_le (Nat.two_pow_pos _)).2 (by omega)
    have a2 : y / 2 ^ y.log2 < 2 := (Nat.div_lt_iff_lt_mul (Nat.two_pow_pos _)).2 (by rw [Nat.pow_succ] at h3; omega)
    omega
  rw [h4]
  have : Lib.bitLen 1 = 1 := by decide
  rw [this]
theorem and_mask (x : Int) (h0 : 0 ≤ x) (h1 : x < 18446744073709551616) : bits .and .u64 x 4294967295 = x % 4294967296 := by
  rw [u64_and x 4294967295 h0 h1 (by omega) (by omega)]
  have : (4294967295 : Int).toNat = 2 ^ 32 - 1 := by decide
  rw [this, Nat.and_two_pow_sub_one_eq_mod]
  omega
theorem or_shift (x z : Int) (s : Nat) (h0 : 0 ≤ x) (h1 : x * 2 ^ s < 18446744073709551616) (z0 : 0 ≤ z) (z1 : z < 2 ^ s) (hs : s ≤ 63) : bits .or .u64 (x * 2 ^ s) z = x * 2 ^ s + z := by
  have hp : (0 : Int) < 2 ^ s := Int.pow_pos (by omega)
  have hx : 0 ≤ x * 2 ^ s := Int.mul_nonneg h0 (by omega)
  have hz : z < 18446744073709551616 := by
    have : (2 : Int) ^ s ≤ 9223372036854775808 := by
      have h : ((2 ^ s : Nat) : Int) ≤ ((9223372036854775808 : Nat) : Int) := Int.ofNat_le.2 (Nat.pow_le_pow_right (by omega : 0 < 2) hs)
      rw [Int.natCast_pow] at h
      exact h
    omega
  rw [u64_or _ _ hx h1 z0 hz]
  obtain ⟨X, rfl⟩ := Int.eq_ofNat_of_zero_le h0
  obtain ⟨Z, rfl⟩ := Int.eq_ofNat_of_zero_le z0
  have e1 : ((X : Int) * 2 ^ s).toNat = X <<< s := by
    rw [Nat.shiftLeft_eq]
    have : (X : Int) * 2 ^ s = ((X * 2 ^ s : Nat) : Int) := by push_cast; rfl
    rw [this, Int.toNat_natCast]
  have hZ : Z < 2 ^ s := by
    have h : (Z : Int) < ((2 ^ s : Nat) : Int) := by push_cast; exact z1
    exact Int.ofNat_lt.1 h
  rw [e1, Int.toNat_natCast, ← Nat.shiftLeft_add_eq_or_of_lt hZ, Nat.shiftLeft_eq]
  push_cast
  rfl
theorem ediv_lt {a b c : Int} (hb : 0 < b) (h : a < c * b) : a / b < c := Int.ediv_lt_of_lt_mul hb h
/-- A quotient of 128 bits by 64. -/
def QuoG (q : Int) (w : World) (e : Ending) (w' : World) : Prop := ∃ r : Int, e = .returned (.tuple #[.int .u64 q, .int .u64 r]) ∧ Grew w w'
theorem div_short (lo y : Int) (y0 : 0 < y) (hy : y < 18446744073709551616) (l0 : 0 ≤ lo) (l1 : lo < 18446744073709551616) (w : World) :
    Calls Tryz.prog 104 #[.int .u64 0, .int .u64 lo, .int .u64 y] w (QuoG (lo / y) w) := by
  have q0 : 0 ≤ lo / y := Int.ediv_nonneg l0 (by omega)
  have q1 : lo / y ≤ lo := Int.ediv_le_self _ l0
  have hyb : (y == 0) = false := by rw [beq_eq_false_iff_ne]; omega
  go_enter Tryz.func104, Tryz.ntmps104
  go_wp2
  go_quiet (fail)
  go_wp2
  go_ret2
  exact ⟨_, rfl, (Grew.refl w).drewN _⟩
theorem div_any (hi lo y : Int) (h0 : 0 ≤ hi) (h1 : hi < y) (hy : y < 18446744073709551616) (l0 : 0 ≤ lo) (l1 : lo < 18446744073709551616) (w : World) :
    Calls Tryz.prog 104 #[.int .u64 hi, .int .u64 lo, .int .u64 y] w (QuoG ((hi * 18446744073709551616 + lo) / y) w) := by
  by_cases hz : hi = 0
  · subst hz
    rw [Int.zero_mul, Int.zero_add]
    exact div_short lo y h1 hy l0 l1 w
  obtain ⟨Y0, hY0⟩ := Int.eq_ofNat_of_zero_le (show 0 ≤ y by omega)
  have k0 : Y0 ≠ 0 := by omega
  have k1 : Y0.log2 < 64 := (Nat.log2_lt k0).2 (by omega)
  have k2 : 2 ^ Y0.log2 ≤ Y0 := Nat.log2_self_le k0
  have k3 : Y0 < 2 ^ (Y0.log2 + 1) := Nat.lt_log2_self
  obtain ⟨s, hs⟩ : ∃ s, s + Y0.log2 = 63 := ⟨63 - Y0.log2, by omega⟩
  have m1 : 9223372036854775808 ≤ Y0 * 2 ^ s := by
    have := Nat.mul_le_mul_right (2 ^ s) k2
    rw [← Nat.pow_add, Nat.add_comm, hs] at this
    exact this
  have m2 : Y0 * 2 ^ s < 18446744073709551616 := by
    have := Nat.mul_lt_mul_of_pos_right k3 (Nat.two_pow_pos s)
    rw [← Nat.pow_add, show Y0.log2 + 1 + s = 64 by omega] at this
    exact this
  have eY : y * 2 ^ s = ((Y0 * 2 ^ s : Nat) : Int) := by rw [hY0]; push_cast; rfl
  have hp : (0 : Int) < 2 ^ s := Int.pow_pos (by omega)
  have hpq : (2 : Int) ^ s * 2 ^ (64 - s) = 18446744073709551616 := by rw [← Int.pow_add, show s + (64 - s) = 64 by omega]; decide
  have hq : (0 : Int) < 2 ^ (64 - s) := Int.pow_pos (by omega)
  have n1 : hi * 2 ^ s < y * 2 ^ s := Int.mul_lt_mul_of_pos_right h1 hp
  have n0 : 0 ≤ hi * 2 ^ s := Int.mul_nonneg h0 (by omega)
  have c0 : 0 ≤ lo / 2 ^ (64 - s) := Int.ediv_nonneg l0 (by omega)
  have c1 : lo / 2 ^ (64 - s) < 2 ^ s := ediv_lt hq (by rw [hpq]; exact l1)
  have n2 : hi * 2 ^ s + 2 ^ s ≤ y * 2 ^ s := by
    have := Int.mul_le_mul_of_nonneg_right (by omega : hi + 1 ≤ y) (by omega : (0 : Int) ≤ 2 ^ s)
    rw [Int.add_mul, Int.one_mul] at this
    exact this
  have hor := or_shift hi (lo / 2 ^ (64 - s)) s h0 (by omega) c0 c1 (by omega)
  have hwl : IntKind.u64.wrap (lo * 2 ^ s) = lo % 2 ^ (64 - s) * 2 ^ s := by
    rw [IntKind.wrap_u64]
    have e := Int.mul_ediv_add_emod lo (2 ^ (64 - s))
    have e2 : lo * 2 ^ s = lo % 2 ^ (64 - s) * 2 ^ s + (lo / 2 ^ (64 - s)) * 18446744073709551616 := by
      rw [← hpq, ← Int.mul_assoc, Int.mul_comm (lo / 2 ^ (64 - s)) (2 ^ s), Int.mul_assoc (2 ^ s), Int.mul_comm (2 ^ s) (lo / 2 ^ (64 - s) * _), ← Int.add_mul]
      congr 1
      rw [Int.mul_comm (lo / 2 ^ (64 - s))]
      omega
    have e3 : lo % 2 ^ (64 - s) * 2 ^ s < 18446744073709551616 := by
      rw [← hpq, Int.mul_comm (2 ^ s)]
      exact Int.mul_lt_mul_of_pos_right (Int.emod_lt_of_pos _ hq) hp
    have e4 : 0 ≤ lo % 2 ^ (64 - s) * 2 ^ s := Int.mul_nonneg (Int.emod_nonneg _ (by omega)) (by omega)
    rw [e2]
    generalize lo % 2 ^ (64 - s) * 2 ^ s = z at *
    omega
  have t0 : 0 ≤ lo % 2 ^ (64 - s) * 2 ^ s := Int.mul_nonneg (Int.emod_nonneg _ (by omega)) (by omega)
  have t1 : lo % 2 ^ (64 - s) * 2 ^ s < 18446744073709551616 := by
    rw [← hpq, Int.mul_comm (2 ^ s)]
    exact Int.mul_lt_mul_of_pos_right (Int.emod_lt_of_pos _ hq) hp
  have hN : (hi * 2 ^ s + lo / 2 ^ (64 - s)) * 18446744073709551616 + lo % 2 ^ (64 - s) * 2 ^ s = (hi * 18446744073709551616 + lo) * 2 ^ s := by
    have e := Int.mul_ediv_add_emod lo (2 ^ (64 - s))
    have e1 : lo / 2 ^ (64 - s) * 18446744073709551616 = (2 ^ (64 - s) * (lo / 2 ^ (64 - s))) * 2 ^ s := by
      rw [← hpq, Int.mul_comm (2 ^ s), ← Int.mul_assoc, Int.mul_comm (lo / 2 ^ (64 - s))]
    rw [Int.add_mul, Int.add_mul, e1, Int.mul_right_comm hi, Int.add_assoc, ← Int.add_mul, e]
  have hQ : (hi * 18446744073709551616 + lo) / y = ((hi * 2 ^ s + lo / 2 ^ (64 - s)) * 18446744073709551616 + lo % 2 ^ (64 - s) * 2 ^ s) / (y * 2 ^ s) := by
    rw [hN, Int.mul_ediv_mul_of_pos_left _ _ hp]
  have hwy : IntKind.u64.wrap (y * 2 ^ s) = y * 2 ^ s := IntWalk.u64_in _ (by omega)
  have hwh : IntKind.u64.wrap (hi * 2 ^ s) = hi * 2 ^ s := IntWalk.u64_in _ (by omega)
  generalize hT : lo % 2 ^ (64 - s) * 2 ^ s = T at *
  generalize hUU : hi * 2 ^ s + lo / 2 ^ (64 - s) = U at *
  have U1 : U < y * 2 ^ s := by omega
  have U0 : 0 ≤ U := by omega
  have Yb0 : 9223372036854775808 ≤ y * 2 ^ s := by rw [eY]; omega
  have Yb1 : y * 2 ^ s < 18446744073709551616 := by rw [eY]; omega
  have hsplit := digits_quo (u := U) (d := T / 4294967296) (e := T % 4294967296) (y := y * 2 ^ s) (by omega)
  have hTT : (U * 4294967296 + T / 4294967296) * 4294967296 + T % 4294967296 = U * 18446744073709551616 + T := by omega
  rw [hTT] at hsplit
  rw [hQ, hsplit]
  refine (div_long hi lo y _ _ _ _ _ U T _ _ _ _ _ (by omega) h1 hy s ?_ (by omega) hwy Yb0 Yb1 rfl (and_mask _ (by omega) Yb1) rfl hwh rfl hor U0 U1 hwl rfl (and_mask _ t0 t1) (by omega) (by omega) (by omega) (by omega) rfl rfl rfl w).mono ?_
  · rw [hY0, Int.toNat_natCast, bitLen_log Y0 k0 (by omega)]
    omega
  · rintro e w' ⟨r, he, hw⟩
    exact ⟨r, he, hw ▸ Grew.refl w⟩
end Go.Proofs.YtbglmcebkpkccaaGreatDoor

/- Layer 26: parts of counts, quotients and digits, by the program and by the document's own answer. -/
namespace Go.Proofs.YtbglmcebkpkccaaGreatDoor
open Go.RowKit
attribute [local go_sem] more_cell more_frozen more_more more_setCell more_of_drew more_of_drewN lt_more le_more past_cell past_cell2 past_frozen past_frozen2 past_setCell past_setCell2 mid_cell mid_frozen mid_setCell
attribute [local go_sem ↓] Go.wp_at_zero Go.wp_at_succ

theorem mul64_p (x y p : Int) (x0 : 0 ≤ x) (x1 : x < 18446744073709551616) (y0 : 0 ≤ y) (y1 : y < 18446744073709551616) (hp : x * y = p) (w : World) : Calls Tryz.prog 102 #[.int .u64 x, .int .u64 y] w fun e w' => e = .returned (.tuple #[.int .u64 (p / 18446744073709551616), .int .u64 (p % 18446744073709551616)]) ∧ w' = w := by
  rw [← hp]
  exact mul64_int x y x0 x1 y0 y1 w
theorem add64_run (x y r c : Int) (hx : 0 ≤ x) (hy : 0 ≤ y) (h : x + y = c * 18446744073709551616 + r) (r0 : 0 ≤ r) (r1 : r < 18446744073709551616) (W : World) :
    (callFunc 103 #[.int .u64 x, .int .u64 y, .int .u64 0]).run Tryz.prog W = .ok (.value (.tuple #[.int .u64 r, .int .u64 c])) W := by
  rw [run_callFunc_extern Tryz.func103 (by kernel_rfl) (by kernel_rfl) (by kernel_rfl) (e := add64Entry) (by kernel_rfl), run_add64 x y 0 hx hy (by decide) (by decide)]
  have e1 : (x + y + 0) % 18446744073709551616 = r := by omega
  have e2 : (x + y + 0) / 18446744073709551616 = c := by omega
  rw [e1, e2]
  rfl
theorem part_any (n num den : Int) (w : World) : Gives Tryz.prog 73 #[.int .i64 n, .int .i64 num, .int .i64 den] w (.int .i64 (partI (cutI n) (cutI num) (cutI den))) := by
  have hx := cutI_s n
  have hy := cutI_s num
  have hz := cutI_s den
  unfold sI at hx hy hz
  obtain ⟨x0, x1⟩ := hx
  obtain ⟨y0, y1⟩ := hy
  obtain ⟨z0, z1⟩ := hz
  by_cases hd : cutI den ≤ cutI num
  · have hr : partI (cutI n) (cutI num) (cutI den) = cutI n := by unfold partI; rw [if_pos hd]
    rw [hr]
    clear hr
    by_cases h0 : cutI den = 0
    all_goals
      unfold Gives
      go_enter Tryz.func73, Tryz.ntmps73
      go_wp2_with (go_at_call 74; refine (cut_any _ _).mono ?_; rintro e w' ⟨rfl, rfl⟩)
      go_ret
      exact ⟨rfl, by (show Grew _ _; repeat (first | exact Grew.refl _ | refine Grew.alloc ?_ _ | refine Grew.drew ?_ | refine Grew.more ?_ _))⟩
  · have hr : partI (cutI n) (cutI num) (cutI den) = (cutI n * cutI num + (cutI den - 1)) / cutI den := by unfold partI; rw [if_neg hd]
    obtain ⟨p, hp⟩ : ∃ p, cutI n * cutI num = p := ⟨_, rfl⟩
    have p0 : 0 ≤ p := by rw [← hp]; exact Int.mul_nonneg x0 y0
    have p1 : p ≤ 4611686018427387904 * (cutI den - 1) := by
      rw [← hp]
      have h1 : cutI n * cutI num ≤ cutI n * (cutI den - 1) := Int.mul_le_mul_of_nonneg_left (by omega) x0
      have h2 : cutI n * (cutI den - 1) ≤ 4611686018427387904 * (cutI den - 1) := Int.mul_le_mul_of_nonneg_right x1 (by omega)
      omega
    have p2 : 0 ≤ (p + (cutI den - 1)) / cutI den ∧ (p + (cutI den - 1)) / cutI den ≤ 4611686018427387904 := by
      have := partI_s (n := cutI n) (num := cutI num) (den := cutI den) x0 y0
      rw [hr, hp] at this
      omega
    rw [hr, hp]
    have HP := Lib.hid hp
    clear hr hp
    obtain ⟨c, r, hcr, r0, r1⟩ : ∃ c r, p % 18446744073709551616 + (cutI den - 1) = c * 18446744073709551616 + r ∧ 0 ≤ r ∧ r < 18446744073709551616 := ⟨(p % 18446744073709551616 + (cutI den - 1)) / 18446744073709551616, (p % 18446744073709551616 + (cutI den - 1)) % 18446744073709551616, by omega, by omega, by omega⟩
    have hc0 : 0 ≤ c := by omega
    have hc1 : c ≤ 1 := by omega
    have hadd := add64_run (p % 18446744073709551616) (cutI den - 1) r c (by omega) (by omega) hcr r0 r1
    have hq : ((p / 18446744073709551616 + c) * 18446744073709551616 + r) / cutI den = (p + (cutI den - 1)) / cutI den := by
      rw [show (p / 18446744073709551616 + c) * 18446744073709551616 + r = p + (cutI den - 1) by omega]
    have HQ := Lib.hid hq
    have h3 : p / 18446744073709551616 + c < cutI den := by omega
    have h4 : 0 ≤ p / 18446744073709551616 := by omega
    clear hcr hq
    have hdb : (cutI den == 0) = false := by rw [beq_eq_false_iff_ne]; omega
    have p4 := p2.1
    have p5 := p2.2
    clear p2
    have w1 : IntKind.u64.wrap (cutI n) = cutI n := IntWalk.u64_in _ (by omega)
    have w2 : IntKind.u64.wrap (cutI num) = cutI num := IntWalk.u64_in _ (by omega)
    have w3 : IntKind.u64.wrap (cutI den) = cutI den := IntWalk.u64_in _ (by omega)
    unfold Gives
    go_enter Tryz.func73, Tryz.ntmps73
    go_wp2_with (first | (go_at_call 74; refine (cut_any _ _).mono ?_; rintro e w' ⟨rfl, rfl⟩) | (go_at_call 102; refine (mul64_p _ _ p (by omega) (by omega) (by omega) (by omega) HP.out _).mono ?_; rintro e w' ⟨rfl, rfl⟩) | (go_at_call 104; refine (div_any _ _ _ (by omega) h3 (by omega) r0 r1 _).mono ?_; rintro e w' ⟨rr, rfl, xx, rfl⟩; rw [HQ.out]))
    go_ret
    exact ⟨rfl, by (show Grew _ _; repeat (first | exact Grew.refl _ | refine Grew.alloc ?_ _ | refine Grew.drew ?_ | refine Grew.more ?_ _))⟩
/-- The document's own: digit by digit. -/
def PartAt (n num den : Int) (bit quo rem : Value) : Prop :=
  ∃ (k : Nat) (q r : Int), k ≤ 63 ∧ bit = .int .i64 (bitI k) ∧ quo = .int .i64 q ∧ rem = .int .i64 r ∧ 0 ≤ q ∧ q ≤ headI n k ∧ 0 ≤ r ∧ r < den ∧ headI n k * num = q * den + r
theorem step_part {N num den q r b : Int} (h : N * num = q * den + r) : (2 * N + b) * num = 2 * q * den + (2 * r + b * num) := by
  have e : (2 * N + b) * num = 2 * (N * num) + b * num := by rw [Int.add_mul, Int.mul_assoc]
  rw [e, h, Int.mul_assoc]
  omega
theorem quo_le {q z r N y : Int} (h : q * z + r = N * y) (hr : 0 ≤ r) (hy : y < z) (hN : 0 ≤ N) (h0 : 0 ≤ y) : q ≤ N := by
  rcases (by omega : q ≤ N ∨ N + 1 ≤ q) with h1 | h1
  · exact h1
  · have h2 := Int.mul_le_mul_of_nonneg_right h1 (by omega : 0 ≤ z)
    have h3 := Int.mul_le_mul_of_nonneg_left (by omega : y ≤ z) hN
    rw [Int.add_mul] at h2
    omega
theorem one_mul_up (q den : Int) : (q + 1) * den = q * den + den := by rw [Int.add_mul, Int.one_mul]
theorem sdiv_any (a b : Int) (w : World) : Calls Tryz.prog 72 #[.int .i64 a, .int .i64 b] w fun e w' => e = .returned (.int .i64 (divI (cutI a) (cutI b))) ∧ w' = w := by
  have hx := cutI_s a
  have hy := cutI_s b
  unfold sI at hx hy
  obtain ⟨x0, x1⟩ := hx
  obtain ⟨y0, y1⟩ := hy
  have HD := Lib.hid (divI_s x0 x1 y0)
  by_cases h1 : cutI a = 0
  · have hr : divI (cutI a) (cutI b) = 0 := by unfold divI; rw [if_pos h1]
    rw [hr]
    have hb : (cutI a == 0) = true := by rw [h1]; rfl
    clear hr
    go_enter Tryz.func72, Tryz.ntmps72
    go_wp2_with (go_at_call 74; refine (cut_any _ _).mono ?_; rintro e w' ⟨rfl, rfl⟩)
    go_ret
    exact ⟨rfl, rfl⟩
  · have hb : (cutI a == 0) = false := by rw [beq_eq_false_iff_ne]; exact h1
    by_cases h2 : cutI b = 0
    · have hr : divI (cutI a) (cutI b) = 4611686018427387904 := by unfold divI; rw [if_neg h1, if_pos h2]
      rw [hr]
      have hb2 : (cutI b == 0) = true := by rw [h2]; rfl
      clear hr
      go_enter Tryz.func72, Tryz.ntmps72
      go_wp2_with (go_at_call 74; refine (cut_any _ _).mono ?_; rintro e w' ⟨rfl, rfl⟩)
      go_ret
      exact ⟨rfl, rfl⟩
    · have hb2 : (cutI b == 0) = false := by rw [beq_eq_false_iff_ne]; exact h2
      have hr : divI (cutI a) (cutI b) = (cutI a - 1) / cutI b + 1 := by unfold divI; rw [if_neg h1, if_neg h2]
      rw [hr]
      have d0 : 0 ≤ (cutI a - 1) / cutI b := Int.ediv_nonneg (by omega) (by omega)
      have d1 : (cutI a - 1) / cutI b ≤ cutI a - 1 := Int.ediv_le_self _ (by omega)
      clear hr
      go_enter Tryz.func72, Tryz.ntmps72
      go_wp2_with (go_at_call 74; refine (cut_any _ _).mono ?_; rintro e w' ⟨rfl, rfl⟩)
      go_ret
      exact ⟨rfl, rfl⟩
/-- How many digits. -/
def digI (n : Int) : Int := (Lib.bitLen n.toNat : Int)
theorem dig_half (n : Int) (h0 : 0 < n) (h1 : n ≤ 4611686018427387904) : digI n = 1 + digI (n / 2) := by
  unfold digI
  rw [Lib.bitLen_half n.toNat (by omega) (by omega)]
  have : (n / 2).toNat = n.toNat / 2 := by omega
  rw [this]
  push_cast
  rfl
theorem dig_zero : digI 0 = 0 := by decide
def BitsAt (R : Int) (x k : Value) : Prop := ∃ n c : Int, 0 ≤ n ∧ n ≤ 4611686018427387904 ∧ x = .int .i64 n ∧ k = .int .i64 c ∧ 0 ≤ c ∧ c + n ≤ 4611686018427387904 ∧ c + digI n = R
end Go.Proofs.YtbglmcebkpkccaaGreatDoor

/- Layer 29: how many keys may pass a filter, how many rows it drops, by the program and by the document's own answer. No condition. -/
namespace Go.Proofs.YtbglmcebkpkccaaGreatDoor
open Go.RowKit
attribute [local go_sem] more_cell more_frozen more_more more_setCell more_of_drew more_of_drewN lt_more le_more past_cell past_cell2 past_frozen past_frozen2 past_setCell past_setCell2 mid_cell mid_frozen mid_setCell
attribute [local go_sem ↓] Go.wp_at_zero Go.wp_at_succ

/-- Of 2^16 keys, those that may pass. -/
def passN (words bits keys : Int) : Int := passOf (heldI words 1 4096) (heldI bits 1 5) (timesI (heldI bits 1 5) (cutI keys))
def gainN (rows pass : Int) : Int := cutI rows - partI (cutI rows) (cutI pass) 65536
theorem gainN_s (rows pass : Int) : 0 ≤ gainN rows pass ∧ gainN rows pass ≤ cutI rows := by
  have := partI_s (n := cutI rows) (num := cutI pass) (den := 65536) (cutI_s rows).1 (cutI_s pass).1
  unfold gainN
  omega
theorem gain_any (rows pass : Int) (w : World) : Gives Tryz.prog 32 #[.int .i64 rows, .int .i64 pass] w (.int .i64 (gainN rows pass)) := by
  have hx := cutI_s rows
  unfold sI at hx
  obtain ⟨x0, x1⟩ := hx
  have hp := partI_s (n := cutI rows) (num := cutI pass) (den := cutI 65536) x0 (cutI_s pass).1
  obtain ⟨p0, p1⟩ := hp
  have h5 : cutI 65536 = 65536 := by decide
  unfold Gives gainN
  rw [← h5]
  clear h5
  go_enter Tryz.func32, Tryz.ntmps32
  go_wp2_with (first | (go_at_call 73; refine (part_any _ _ _ _).mono ?_; rintro e w' ⟨rfl, x, rfl⟩) | (go_at_call 74; refine (cut_any _ _).mono ?_; rintro e w' ⟨rfl, rfl⟩))
  go_ret
  exact ⟨rfl, by (show Grew _ _; repeat (first | exact Grew.refl _ | refine Grew.alloc ?_ _ | refine Grew.drew ?_ | refine Grew.more ?_ _))⟩
theorem heldI_minmax (n lo hi : Int) (h : lo ≤ hi) : min hi (max lo n) = heldI n lo hi := by
  unfold heldI
  (repeat' split) <;> omega
theorem foldM_two (a b : Int) (h : 0 ≤ a) (h' : a ≤ 4611686018427387904) : foldM [a, b] 1 = timesI a (cutI b) := by
  show timesI (timesI 1 (cutI a)) (cutI b) = _
  rw [cutI_self ⟨h, h'⟩]
  have : timesI 1 a = a := by unfold timesI; rw [Int.one_mul, if_neg (by omega)]
  rw [this]
theorem divI_cut {x y : Int} (h : sI x) (h' : sI y) : divI (cutI x) (cutI y) = divI x y := by rw [cutI_self h, cutI_self h']
def PassAt1 (w wr : World) (m : Nat) (u i : Value) : Prop := ∃ k : Nat, k ≤ m ∧ i = .int .i64 k ∧ u = .int .i64 (unsetI k) ∧ Grew w wr
def PassAt2 (w wr : World) (m : Nat) (x : Int) (p i : Value) : Prop := ∃ k : Nat, k ≤ m ∧ i = .int .i64 k ∧ p = .int .i64 (passI x k) ∧ Grew w wr
theorem unset_next (k : Nat) : partI (cutI (unsetI k)) (cutI 63) (cutI 64) = unsetI (k + 1) := by
  have := unsetI_s k
  rw [cutI_self (n := unsetI k) ⟨by omega, by omega⟩]
  have e1 : cutI 63 = 63 := by decide
  have e2 : cutI 64 = 64 := by decide
  rw [e1, e2]
  rfl
theorem pass_next (u : Int) (h0 : 0 ≤ u) (h : u ≤ 65536) (k : Nat) : partI (cutI (passI u k)) (cutI (65536 - u)) (cutI 65536) = passI u (k + 1) := by
  have := passI_s h k
  rw [cutI_self (n := passI u k) ⟨by omega, by omega⟩, cutI_self (n := 65536 - u) ⟨by omega, by omega⟩]
  have e1 : cutI 65536 = 65536 := by decide
  rw [e1]
  rfl
theorem sdiv_to (a b r : Int) (h : divI (cutI a) (cutI b) = r) (w : World) : Calls Tryz.prog 72 #[.int .i64 a, .int .i64 b] w fun e w' => e = .returned (.int .i64 r) ∧ w' = w := by
  rw [← h]
  exact sdiv_any a b w
theorem part_to (a b c r : Int) (h : partI (cutI a) (cutI b) (cutI c) = r) (w : World) : Gives Tryz.prog 73 #[.int .i64 a, .int .i64 b, .int .i64 c] w (.int .i64 r) := by
  rw [← h]
  exact part_any a b c w
theorem mul_two (a b r : Int) (w : World) (A : Option Addr) (hr : Row w A [.int .i64 a, .int .i64 b]) (h : foldM [a, b] 1 = r) :
    Calls Tryz.prog 54 #[.slice A 2 2] w fun e w' => e = .returned (.int .i64 r) ∧ w' = w := by
  rw [← h]
  exact mul_any [a, b] A 2 (by show 2 ≤ 1000000; omega) w hr
theorem row_two (W : World) (B : Nat) (a b : Int) (hB : B = W.heap.size) : Row (W.alloc (.cells #[.int .i64 a, .int .i64 b] 3)) (some ⟨B, 0, none⟩) [.int .i64 a, .int .i64 b] := row_of W B [a, b] hB _ rfl
set_option maxHeartbeats 1000000 in
theorem pass_any (words bits keys : Int) (w : World) : Gives Tryz.prog 31 #[.int .i64 words, .int .i64 bits, .int .i64 keys] w (.int .i64 (passN words bits keys)) := by
  have hw := heldI_s (n := words) (low := 1) (high := 4096) (by omega)
  have hb := heldI_s (n := bits) (low := 1) (high := 5) (by omega)
  have mw := heldI_minmax words 1 4096 (by omega)
  have mb := heldI_minmax bits 1 5 (by omega)
  obtain ⟨w0, w1⟩ := hw
  obtain ⟨b0, b1⟩ := hb
  have hR : passN words bits keys = passOf (heldI words 1 4096) (heldI bits 1 5) (timesI (heldI bits 1 5) (cutI keys)) := rfl
  generalize passN words bits keys = R at *
  generalize heldI words 1 4096 = W at *
  generalize heldI bits 1 5 = B at *
  have hM := foldM_two B keys (by omega) (by omega)
  have hs : sI (timesI B (cutI keys)) := timesI_s ⟨by omega, by omega⟩ (cutI_s keys)
  have hD := divI_cut hs (y := W) ⟨by omega, by omega⟩
  have hd := divI_s (x := timesI B (cutI keys)) (y := W) hs.1 hs.2 (by omega)
  have HM := Lib.hid hM
  have HD := Lib.hid hD
  have HR := Lib.hid hR
  clear hM hD hR hs
  generalize timesI B (cutI keys) = T at *
  have hm := heldI_s (n := divI T W) (low := 0) (high := 1000) (by omega)
  have mm : min 1000 (divI T W) = heldI (divI T W) 0 1000 := by unfold heldI; (repeat' split) <;> omega
  have HR' : Hid (R = passI (unsetI (heldI (divI T W) 0 1000).toNat) B.toNat) := Lib.hid HR.out
  clear HR
  obtain ⟨d0, d1⟩ := hd
  obtain ⟨m0, m1⟩ := hm
  generalize heldI (divI T W) 0 1000 = M at *
  obtain ⟨M, rfl⟩ := Int.eq_ofNat_of_zero_le m0
  obtain ⟨B, rfl⟩ := Int.eq_ofNat_of_zero_le (by omega : 0 ≤ B)
  simp only [Int.toNat_natCast] at HR'
  unfold Gives
  go_enter Tryz.func31, Tryz.ntmps31
  go_wp2_with (first | (go_at_call 54; refine (mul_two _ _ T _ _ (row_two _ _ _ _ rfl) HM.out).mono ?_; rintro e w' ⟨rfl, rfl⟩) | (go_at_call 72; refine (sdiv_to T W _ HD.out _).mono ?_; rintro e w' ⟨rfl, rfl⟩))
  go_loopw [7, 22] (fun u i wr => PassAt1 w wr M u i) (fun _ i _ => M - (intOf i).toNat)
  case atStart => exact ⟨0, Nat.zero_le _, rfl, rfl, by (show Grew _ _; repeat (first | exact Grew.refl _ | refine Grew.alloc ?_ _ | refine Grew.drew ?_ | refine Grew.more ?_ _))⟩
  case round =>
    obtain ⟨k, hk, rfl, rfl, hg⟩ := hrel
    have HG := Lib.hid hg
    clear hg
    by_cases h : k < M
    · have hs := unsetI_s k
      obtain ⟨s0, s1⟩ := hs
      have HN := Lib.hid (unset_next k)
      generalize unsetI k = u at *
      go_wp2_with (go_at_call 73; refine (part_to _ _ _ _ HN.out _).mono ?_; rintro e w' ⟨rfl, x, rfl⟩)
      case roundEnd => exact ⟨⟨k + 1, by omega, by simp, rfl, HG.out.more _⟩, by simp only [intOf]; omega⟩
    · obtain rfl : k = M := by omega
      have hs := unsetI_s k
      obtain ⟨s0, s1⟩ := hs
      generalize unsetI k = u at *
      go_wp2
      go_loopw [8, 28] (fun p i wr => PassAt2 w wr B u p i) (fun _ i _ => B - (intOf i).toNat)
      case atStart => exact ⟨0, Nat.zero_le _, rfl, rfl, HG.out⟩
      case round =>
        obtain ⟨j, hj, rfl, rfl, hg⟩ := hrel
        have HG2 := Lib.hid hg
        clear hg
        have hs := passI_s s1 j
        obtain ⟨t0, t1⟩ := hs
        by_cases h2 : j < B
        · have HN := Lib.hid (pass_next u s0 s1 j)
          generalize passI u j = p at *
          go_wp2_with (go_at_call 73; refine (part_to _ _ _ _ HN.out _).mono ?_; rintro e w' ⟨rfl, x, rfl⟩)
          case roundEnd => exact ⟨⟨j + 1, by omega, by simp, rfl, HG2.out.more _⟩, by simp only [intOf]; omega⟩
        · obtain rfl : j = B := by omega
          go_wp2
          go_ret
          exact ⟨ret_int (by rw [HR'.out]), HG2.out⟩
theorem rtimes_to (a b r : Int) (h : timesI (cutI a) (cutI b) = r) (w : World) : Calls Tryz.prog 96 #[.int .i64 a, .int .i64 b] w fun e w' => e = .returned (.int .i64 r) ∧ w' = w := by
  rw [← h]
  exact rtimes_any a b w
theorem unset_step (k : Nat) : (unsetI k * 63 + 63) / 64 = unsetI (k + 1) := by
  show _ = partI (unsetI k) 63 64
  unfold partI
  rw [if_neg (by omega)]
  rfl
theorem pass_step (u : Int) (h0 : 0 ≤ u) (k : Nat) : (passI u k * (65536 - u) + 65535) / 65536 = passI u (k + 1) := by
  show _ = partI (passI u k) (65536 - u) 65536
  unfold partI
  split
  · obtain rfl : u = 0 := by omega
    omega
  · rfl
def RPassAt1 (m : Nat) (u i : Value) : Prop := ∃ k : Nat, k ≤ m ∧ i = .int .i64 k ∧ u = .int .i64 (unsetI k)
def RPassAt2 (m : Nat) (x : Int) (p i : Value) : Prop := ∃ k : Nat, k ≤ m ∧ i = .int .i64 k ∧ p = .int .i64 (passI x k)
def worthB (rows pass : Int) : Bool := decide (cutI rows < timesI 4 (gainN rows pass))
theorem live29_any (w : World) : Gives Tryz.prog 9 #[] w (.bool true) := by
  have e1 : passN 1 1 0 = 0 := by decide +kernel
  have e2 : passN 1 1 1 = 1024 := by decide +kernel
  have e3 : gainN 100 32768 = 50 := by decide +kernel
  unfold Gives
  go_enter Tryz.func9, Tryz.ntmps9
  go_wp2_with (first | (go_at_call 31; refine (pass_any _ _ _ _).mono ?_; rintro e w' ⟨rfl, x, rfl⟩) | (go_at_call 32; refine (gain_any _ _ _).mono ?_; rintro e w' ⟨rfl, x, rfl⟩))
  go_ret
  exact ⟨rfl, by (show Grew _ _; repeat (first | exact Grew.refl _ | refine Grew.alloc ?_ _ | refine Grew.drew ?_ | refine Grew.more ?_ _))⟩
theorem passN_s (words bits keys : Int) : 0 ≤ passN words bits keys ∧ passN words bits keys ≤ 65536 := passOf_s _ _ _
theorem cutI_up {a b : Int} (h : a ≤ b) : cutI a ≤ cutI b := by unfold cutI; (repeat' split) <;> omega
theorem timesI_up {x y y' : Int} (hx : 0 ≤ x) (h : y ≤ y') : timesI x y ≤ timesI x y' := by
  have := Int.mul_le_mul_of_nonneg_left h hx
  unfold timesI
  (repeat' split) <;> omega
theorem passN_up {words bits keys more : Int} (h : keys ≤ more) : passN words bits keys ≤ passN words bits more := by
  have hw := heldI_s (n := words) (low := 1) (high := 4096) (by omega)
  have hb := heldI_s (n := bits) (low := 1) (high := 5) (by omega)
  exact passOf_up (by omega) (timesI_s (x := heldI bits 1 5) ⟨by omega, by omega⟩ (cutI_s keys)).1 (timesI_up (by omega) (cutI_up h))
theorem passN_down {words bits keys more : Int} (h : words ≤ more) : passN more bits keys ≤ passN words bits keys := by
  have hw := heldI_s (n := words) (low := 1) (high := 4096) (by omega)
  have hb := heldI_s (n := bits) (low := 1) (high := 5) (by omega)
  exact passOf_down (by omega) (timesI_s (x := heldI bits 1 5) ⟨by omega, by omega⟩ (cutI_s keys)).1 (heldI_up (by omega) h)
theorem gainN_down {rows pass more : Int} (h : pass ≤ more) : gainN rows more ≤ gainN rows pass := by
  have := partI_mono (n := cutI rows) (num := cutI pass) (num' := cutI more) (den := 65536) (cutI_s rows).1 (cutI_s pass).1 (cutI_up h) (by omega)
  unfold gainN
  omega
end Go.Proofs.YtbglmcebkpkccaaGreatDoor

/- Layer 28: the nearest share of a float, and how floats lie, by the program and by the document's own answer. No condition but that bits are 64. -/
namespace Go.Proofs.YtbglmcebkpkccaaGreatDoor
open Go.RowKit
attribute [local go_sem] more_cell more_frozen more_more more_setCell more_of_drew more_of_drewN lt_more le_more past_cell past_cell2 past_frozen past_frozen2 past_setCell past_setCell2 mid_cell mid_frozen mid_setCell
attribute [local go_sem ↓] Go.wp_at_zero Go.wp_at_succ

theorem ord_self (x : Nat) (h : nanB x = false) : FloatKind.f64.format.order x x = some .eq := by
  show Ieee.double.order x x = _
  rw [order_lit x x h h, Int.compare_eq_eq.2 rfl]
theorem ord_nan (x y : Nat) (h : nanB x = true ∨ nanB y = true) : FloatKind.f64.format.order x y = none := order_nan x y h
theorem nan_not {x : Nat} (h : x ≤ 9218868437227405312) : nanB x = false := by
  unfold nanB rungB
  rw [decide_eq_false_iff_not]
  omega
theorem ord_pos {x y : Nat} (hx : x ≤ 9218868437227405312) (hy : y ≤ 9218868437227405312) : FloatKind.f64.format.order x y = some (compare x y) := by
  show Ieee.double.order x y = _
  rw [order_lit x y (nan_not hx) (nan_not hy), lit_pos x (by omega), lit_pos y (by omega)]
  refine congrArg some ?_
  rcases Nat.lt_trichotomy x y with h | h | h
  · rw [Nat.compare_eq_lt.2 h, Int.compare_eq_lt.2 (by have := rungv_lt h; omega)]
  · subst h
    rw [Nat.compare_eq_eq.2 rfl, Int.compare_eq_eq.2 rfl]
  · rw [Nat.compare_eq_gt.2 h, Int.compare_eq_gt.2 (by have := rungv_lt h; omega)]
theorem ord_neg {x y : Nat} (hx : 9223372036854775808 < x) (hx' : x ≤ 18442240474082181120) (hy : y ≤ 9218868437227405312) : FloatKind.f64.format.order x y = some .lt := by
  show Ieee.double.order x y = _
  rw [order_lit x y (by unfold nanB rungB; rw [decide_eq_false_iff_not]; omega) (nan_not hy), lit_pos y (by omega), lit_neg x (by omega) (by omega)]
  refine congrArg some ?_
  refine Int.compare_eq_lt.2 ?_
  have := @rungv_lt 0 (x - 9223372036854775808) (by omega)
  omega
theorem ord_mzero {y : Nat} (hy : y ≤ 9218868437227405312) : FloatKind.f64.format.order 9223372036854775808 y = some (compare 0 y) := by
  show Ieee.double.order 9223372036854775808 y = _
  have h0 : rungv 0 = 0 := rfl
  rw [order_lit _ y (by decide) (nan_not hy), lit_pos y (by omega), lit_neg 9223372036854775808 (by omega) (by omega), Nat.sub_self, h0]
  refine congrArg some ?_
  rcases Nat.eq_zero_or_pos y with h | h
  · subst h; rfl
  · rw [Nat.compare_eq_lt.2 h]
    refine Int.compare_eq_lt.2 ?_
    have := @rungv_lt 0 y h
    omega
def oneB : Nat := 4607182418800017408
theorem cmp_lt {x y : Nat} (h : x < y) : compare x y = .lt := Nat.compare_eq_lt.2 h
theorem cmp_gt {x y : Nat} (h : y < x) : compare x y = .gt := Nat.compare_eq_gt.2 h
theorem isnan_any (x : Nat) (b : Bool) (h : nanB x = b) (w : World) : Calls Tryz.prog 126 #[.float .f64 x] w fun e w' => e = .returned (.bool b) ∧ w' = w := by
  cases b with
  | true =>
    have ho := ord_nan x x (Or.inl h)
    go_enter Tryz.func126, Tryz.ntmps126
    go_wp2
    go_ret
    exact ⟨rfl, rfl⟩
  | false =>
    have ho := ord_self x h
    go_enter Tryz.func126, Tryz.ntmps126
    go_wp2
    go_ret
    exact ⟨rfl, rfl⟩
theorem ret_f64 {a b : Nat} (h : a = b) : Ending.returned (.float .f64 a) = .returned (.float .f64 b) := by rw [h]
theorem clean_any (x : Nat) (hx : x < 18446744073709551616) (w : World) : Calls Tryz.prog 93 #[.float .f64 x] w fun e w' => e = .returned (.float .f64 (cleanB x)) ∧ w' = w := by
  cases hn : nanB x with
  | true =>
    have hc : cleanB x = 4607182418800017408 := by
      unfold nanB rungB at hn
      rw [decide_eq_true_eq] at hn
      unfold cleanB
      rw [if_pos hn]
    rw [hc]
    have HN := Lib.hid hn
    clear hn hc
    go_enter Tryz.func93, Tryz.ntmps93
    go_wp2_with (go_at_call 126; refine (isnan_any _ _ HN.out _).mono ?_; rintro e w' ⟨rfl, rfl⟩)
    go_ret
    exact ⟨rfl, rfl⟩
  | false =>
    have hr : x % 9223372036854775808 ≤ 9218868437227405312 := by
      unfold nanB rungB at hn
      rw [decide_eq_false_iff_not] at hn
      omega
    have HN := Lib.hid hn
    clear hn
    rcases (by omega : 4607182418800017408 < x ∧ x < 9223372036854775808 ∨ x = 0 ∨ 9223372036854775808 < x ∨ x = 9223372036854775808 ∨ 0 < x ∧ x ≤ 4607182418800017408) with ⟨h1, h2⟩ | rfl | h1 | rfl | ⟨h1, h2⟩
    · have hc : cleanB x = 4607182418800017408 := by unfold cleanB; rw [if_neg (by omega), if_neg (by omega), if_pos (by omega)]
      rw [hc]
      have ho := ord_pos (x := x) (y := 4607182418800017408) (by omega) (by omega)
      rw [cmp_gt (by omega)] at ho
      clear hc h1 h2 hr
      go_enter Tryz.func93, Tryz.ntmps93
      go_wp2_with (go_at_call 126; refine (isnan_any _ _ HN.out _).mono ?_; rintro e w' ⟨rfl, rfl⟩)
      go_ret
      exact ⟨rfl, rfl⟩
    · have ho : FloatKind.f64.format.order 0 4607182418800017408 = some .lt := by rw [ord_pos (by omega) (by omega), cmp_lt (by omega)]
      have hz : FloatKind.f64.format.order 0 0 = some .eq := ord_self 0 (by decide)
      go_enter Tryz.func93, Tryz.ntmps93
      go_wp2_with (go_at_call 126; refine (isnan_any _ _ HN.out _).mono ?_; rintro e w' ⟨rfl, rfl⟩)
      go_ret
      exact ⟨rfl, rfl⟩
    · have hc : cleanB x = 0 := by unfold cleanB; rw [if_neg (by omega), if_pos (by omega)]
      rw [hc]
      have ho := ord_neg (x := x) (y := 4607182418800017408) (by omega) (by omega) (by omega)
      have hz := ord_neg (x := x) (y := 0) (by omega) (by omega) (by omega)
      clear hc h1 hr
      go_enter Tryz.func93, Tryz.ntmps93
      go_wp2_with (go_at_call 126; refine (isnan_any _ _ HN.out _).mono ?_; rintro e w' ⟨rfl, rfl⟩)
      go_ret
      exact ⟨rfl, rfl⟩
    · have ho : FloatKind.f64.format.order 9223372036854775808 4607182418800017408 = some .lt := by rw [ord_mzero (by omega), cmp_lt (by omega)]
      have hz : FloatKind.f64.format.order 9223372036854775808 0 = some .eq := by rw [ord_mzero (by omega)]; rfl
      go_enter Tryz.func93, Tryz.ntmps93
      go_wp2_with (go_at_call 126; refine (isnan_any _ _ HN.out _).mono ?_; rintro e w' ⟨rfl, rfl⟩)
      go_ret
      exact ⟨rfl, rfl⟩
    · have hc : cleanB x = x := cleanB_self h2
      rw [hc]
      have hz := ord_pos (x := x) (y := 0) (by omega) (by omega)
      rw [cmp_gt (by omega)] at hz
      have ho : FloatKind.f64.format.order x 4607182418800017408 = some .lt ∨ FloatKind.f64.format.order x 4607182418800017408 = some .eq := by
        rw [ord_pos (by omega) (by omega)]
        rcases Nat.lt_or_eq_of_le h2 with h | h
        · left; rw [cmp_lt h]
        · right; rw [h]; rfl
      clear hc h1 h2 hr
      rcases ho with ho | ho
      all_goals
        go_enter Tryz.func93, Tryz.ntmps93
        go_wp2_with (go_at_call 126; refine (isnan_any _ _ HN.out _).mono ?_; rintro e w' ⟨rfl, rfl⟩)
        go_ret
        exact ⟨rfl, rfl⟩
end Go.Proofs.YtbglmcebkpkccaaGreatDoor

/- Layer 28: the nearest share by the document's own answer; quotients of integers. No condition but that bits are 64. -/
namespace Go.Proofs.YtbglmcebkpkccaaGreatDoor
open Go.RowKit
attribute [local go_sem] more_cell more_frozen more_more more_setCell more_of_drew more_of_drewN lt_more le_more past_cell past_cell2 past_frozen past_frozen2 past_setCell past_setCell2 mid_cell mid_frozen mid_setCell
attribute [local go_sem ↓] Go.wp_at_zero Go.wp_at_succ

theorem Gives.calls {P : Program} {f : FuncId} {args : Array Value} {w : World} {v : Value} (h : Gives P f args w v) : Calls P f args w fun e w' => e = .returned v ∧ ∃ x, w' = more w x := h
theorem fbits_run (x : Nat) (W : World) : (callFunc 45 #[.float .f64 x]).run Tryz.prog W = .ok (.value (.int .u64 x)) W := by
  rw [run_callFunc_extern Tryz.func45 (by kernel_rfl) (by kernel_rfl) (by kernel_rfl) (e := Extern.MathFloatBits.float64bits) (by kernel_rfl)]
  rfl
set_option maxRecDepth 100000 in
theorem rclean_any (x : Nat) (hx : x < 18446744073709551616) (w : World) : Calls Tryz.prog 86 #[.float .f64 x] w fun e w' => e = .returned (.float .f64 (cleanB x)) ∧ w' = w := by
  have hb := fbits_run x
  obtain ⟨m, hm⟩ : ∃ m, x % 9223372036854775808 = m := ⟨_, rfl⟩
  have hm' : (x : Int) % 9223372036854775808 = (m : Int) := by omega
  have hx' : (x : Int) < 18446744073709551616 := by omega
  rcases (by omega : 9218868437227405312 < m ∨ (m ≤ 9218868437227405312 ∧ x ≠ m) ∨ (m = 0 ∧ x = m) ∨ (0 < m ∧ m < 4607182418800017408 ∧ x = m) ∨ (4607182418800017408 ≤ m ∧ m ≤ 9218868437227405312 ∧ x = m)) with h | ⟨h, h'⟩ | ⟨h, h'⟩ | ⟨h, h1, h'⟩ | ⟨h, h1, h'⟩
  · have hc : cleanB x = 4607182418800017408 := by unfold cleanB; rw [hm, if_pos h]
    rw [hc]
    have g1 : (9218868437227405312 : Int) < (m : Int) := by omega
    clear hc hm
    go_enter Tryz.func86, Tryz.ntmps86
    go_wp2
    go_ret
    exact ⟨rfl, rfl⟩
  · have hc : cleanB x = 0 := by unfold cleanB; rw [hm, if_neg (by omega), if_pos (by omega)]
    rw [hc]
    have g1 : (m : Int) ≤ 9218868437227405312 := by omega
    have g2 : ((x : Int) != (m : Int)) = true := by rw [bne_iff_ne]; omega
    have g3 : decide ((9218868437227405312 : Int) < (m : Int)) = false := decide_eq_false (by omega)
    clear hc hm h h' g1 hx
    go_enter Tryz.func86, Tryz.ntmps86
    go_wp2
    go_ret
    exact ⟨rfl, rfl⟩
  · subst h
    subst h'
    have hc : cleanB 0 = 0 := rfl
    rw [hc]
    clear hc hm hm'
    go_enter Tryz.func86, Tryz.ntmps86
    go_wp2
    go_ret
    exact ⟨rfl, rfl⟩
  · subst h'
    have hc : cleanB x = x := cleanB_self (by omega)
    rw [hc]
    have g1 : decide ((4607182418800017408 : Int) ≤ (x : Int)) = false := decide_eq_false (by omega)
    have g2 : ((x : Int) != (x : Int)) = false := by simp
    have g3 : ((x : Int) == 0) = false := by rw [beq_eq_false_iff_ne]; omega
    have g5 : decide ((9218868437227405312 : Int) < (x : Int)) = false := decide_eq_false (by omega)
    clear hc hm h h1 hx
    go_enter Tryz.func86, Tryz.ntmps86
    go_wp2
    go_ret
    exact ⟨rfl, rfl⟩
  · subst h'
    have hc : cleanB x = 4607182418800017408 := by unfold cleanB; rw [hm, if_neg (by omega), if_neg (by omega), if_pos (by omega)]
    rw [hc]
    have g1 : (4607182418800017408 : Int) ≤ (x : Int) := by omega
    have g2 : ((x : Int) != (x : Int)) = false := by simp
    have g3 : ((x : Int) == 0) = false := by rw [beq_eq_false_iff_ne]; omega
    have g5 : decide ((9218868437227405312 : Int) < (x : Int)) = false := decide_eq_false (by omega)
    clear hc hm h h1 hx
    go_enter Tryz.func86, Tryz.ntmps86
    go_wp2
    go_ret
    exact ⟨rfl, rfl⟩
theorem fsame_any (x y : Nat) (w : World) : Calls Tryz.prog 13 #[.float .f64 x, .float .f64 y] w fun e w' => e = .returned (.bool ((x : Int) == (y : Int))) ∧ w' = w := by
  have hb := fbits_run x
  have hb2 := fbits_run y
  go_enter Tryz.func13, Tryz.ntmps13
  go_wp2
  go_ret
  exact ⟨rfl, rfl⟩
theorem float_int (n : Int) : floatOfInt .f64 n = intB n := nearest_word _ _ _
def isI64 (n : Int) : Prop := -9223372036854775808 ≤ n ∧ n ≤ 9223372036854775807
theorem quo_run (x y r : Nat) (h : Ieee.double.div x y = some r) (W : World) : (binOp .quo 43 (.float .f64 x) (.float .f64 y)).run Tryz.prog W = .ok (.float .f64 r) W :=
  run_float_arith W .quo _ .f64 x y r h
/-- A quotient that is no number: which one, is left open. -/
def anyNan (W : World) : Nat := (Question.nanBits .f64 (intB 0) (intB 0)).cut (W.tape W.drawn (Question.nanBits .f64 (intB 0) (intB 0)))
theorem anyNan_nan (W : World) : anyNan W < 18446744073709551616 ∧ cleanB (anyNan W) = 4607182418800017408 := by
  unfold anyNan
  simp only [Question.cut]
  generalize W.tape W.drawn (Question.nanBits .f64 (intB 0) (intB 0)) = t
  have hu : t % 2 = 0 ∨ t % 2 = 1 := by omega
  have hv : t / 2 % (2 ^ 52 - 1) < 4503599627370495 := Nat.mod_lt _ (by decide)
  generalize t % 2 = u at *
  generalize t / 2 % (2 ^ 52 - 1) = v at *
  constructor
  · rcases hu with rfl | rfl <;> omega
  · unfold cleanB
    rw [if_pos (by rcases hu with rfl | rfl <;> omega)]
theorem quo_nan (W : World) : (binOp .quo 43 (.float .f64 (intB 0)) (.float .f64 (intB 0))).run Tryz.prog W = .ok (.float .f64 (anyNan W)) W.drew := by
  have h : FloatKind.f64.format.div (intB 0) (intB 0) = none := div_nan
  simp [binOp, Op.floatArith, h, anyNan, Question.forced]
theorem clean_to (x y : Nat) (hx : x < 18446744073709551616) (h : cleanB x = y) (w : World) : Calls Tryz.prog 93 #[.float .f64 x] w fun e w' => e = .returned (.float .f64 y) ∧ w' = w := by
  rw [← h]
  exact clean_any x hx w
theorem rclean_to (x y : Nat) (hx : x < 18446744073709551616) (h : cleanB x = y) (w : World) : Calls Tryz.prog 86 #[.float .f64 x] w fun e w' => e = .returned (.float .f64 y) ∧ w' = w := by
  rw [← h]
  exact rclean_any x hx w
theorem fof_any (a b : Int) (ha : isI64 a) (hb : isI64 b) (w : World) : Gives Tryz.prog 111 #[.int .i64 a, .int .i64 b] w (.float .f64 (ofB a b)) := by
  unfold isI64 at ha hb
  have fa := float_int a
  have fb := float_int b
  by_cases h : b = 0
  · subst h
    by_cases h0 : a = 0
    · subst h0
      have hr : ofB 0 0 = 4607182418800017408 := rfl
      rw [hr]
      have hq := quo_nan
      unfold Gives
      clear hr
      go_enter Tryz.func111, Tryz.ntmps111
      go_wp2_with (go_at_call 93; refine (clean_to _ _ (anyNan_nan _).1 (anyNan_nan _).2 _).mono ?_; rintro e w' ⟨rfl, rfl⟩)
      go_ret
      exact ⟨rfl, by (show Grew _ _; repeat (first | exact Grew.refl _ | refine Grew.alloc ?_ _ | refine Grew.drew ?_ | refine Grew.more ?_ _))⟩
    · have hd := div_inf a (by omega) h0
      obtain ⟨r, hrr⟩ : ∃ r, Ieee.double.word (decide (a < 0)) 9218868437227405312 = r := ⟨_, rfl⟩
      have hw : r < 18446744073709551616 := by rw [← hrr, word_val]; split <;> omega
      have hc : cleanB r = ofB a 0 := by
        rw [← hrr, clean_word _ _ (by omega)]
        unfold ofB
        rw [if_pos rfl]
        by_cases hn : a < 0
        · rw [decide_eq_true hn, if_pos hn]; rfl
        · rw [decide_eq_false hn, if_neg hn]; rfl
      rw [hrr] at hd
      have HC := Lib.hid hc
      have hq := quo_run _ _ _ hd
      clear hd hc hrr
      generalize ofB a 0 = R at *
      generalize intB a = x at *
      generalize intB 0 = y at *
      unfold Gives
      go_enter Tryz.func111, Tryz.ntmps111
      go_wp2_with (go_at_call 93; refine (clean_to _ _ hw HC.out _).mono ?_; rintro e w' ⟨rfl, rfl⟩)
      go_ret
      exact ⟨rfl, by (show Grew _ _; repeat (first | exact Grew.refl _ | refine Grew.alloc ?_ _ | refine Grew.drew ?_ | refine Grew.more ?_ _))⟩
  · obtain ⟨r, h1, _, h3⟩ := div_some a b (by omega) (by omega) h
    obtain ⟨q, hq0⟩ : ∃ q, Ieee.double.word (decide (a < 0) ^^ decide (b < 0)) r = q := ⟨_, rfl⟩
    have hw : q < 18446744073709551616 := by rw [← hq0, word_val]; split <;> omega
    rw [hq0] at h3
    have hc : cleanB q = ofB a b := by
      unfold ofB
      rw [if_neg h, h3]
      rfl
    have HC := Lib.hid hc
    have hq := quo_run _ _ _ h3
    clear h3 hc hq0
    generalize ofB a b = R at *
    generalize intB a = x at *
    generalize intB b = y at *
    unfold Gives
    go_enter Tryz.func111, Tryz.ntmps111
    go_wp2_with (go_at_call 93; refine (clean_to _ _ hw HC.out _).mono ?_; rintro e w' ⟨rfl, rfl⟩)
    go_ret
    exact ⟨rfl, by (show Grew _ _; repeat (first | exact Grew.refl _ | refine Grew.alloc ?_ _ | refine Grew.drew ?_ | refine Grew.more ?_ _))⟩
theorem rof_any (a b : Int) (ha : isI64 a) (hb : isI64 b) (w : World) : Gives Tryz.prog 81 #[.int .i64 a, .int .i64 b] w (.float .f64 (ofB a b)) := by
  unfold isI64 at ha hb
  have fa := float_int a
  have fb := float_int b
  by_cases h : b = 0
  · subst h
    by_cases h0 : a < 0
    · have hr : ofB a 0 = 0 := by unfold ofB; rw [if_pos rfl, if_pos h0]
      rw [hr]
      clear hr
      unfold Gives
      go_enter Tryz.func81, Tryz.ntmps81
      go_wp2
      go_ret
      exact ⟨rfl, by (show Grew _ _; repeat (first | exact Grew.refl _ | refine Grew.alloc ?_ _ | refine Grew.drew ?_ | refine Grew.more ?_ _))⟩
    · have hr : ofB a 0 = 4607182418800017408 := by unfold ofB; rw [if_pos rfl, if_neg h0]
      rw [hr]
      clear hr
      unfold Gives
      go_enter Tryz.func81, Tryz.ntmps81
      go_wp2
      go_ret
      exact ⟨rfl, by (show Grew _ _; repeat (first | exact Grew.refl _ | refine Grew.alloc ?_ _ | refine Grew.drew ?_ | refine Grew.more ?_ _))⟩
  · have hbb : (b == 0) = false := by rw [beq_eq_false_iff_ne]; exact h
    by_cases h0 : a = 0 ∨ (a < 0 ∧ 0 < b) ∨ (0 < a ∧ b < 0)
    · have hr := ofB_zero (by omega) (by omega) h h0
      rw [hr]
      clear hr
      unfold Gives
      rcases h0 with rfl | ⟨h1, h2⟩ | ⟨h1, h2⟩
      · go_enter Tryz.func81, Tryz.ntmps81
        go_wp2
        go_ret
        exact ⟨rfl, by (show Grew _ _; repeat (first | exact Grew.refl _ | refine Grew.alloc ?_ _ | refine Grew.drew ?_ | refine Grew.more ?_ _))⟩
      · have haa : (a == 0) = false := by rw [beq_eq_false_iff_ne]; omega
        go_enter Tryz.func81, Tryz.ntmps81
        go_wp2
        go_ret
        exact ⟨rfl, by (show Grew _ _; repeat (first | exact Grew.refl _ | refine Grew.alloc ?_ _ | refine Grew.drew ?_ | refine Grew.more ?_ _))⟩
      · have haa : (a == 0) = false := by rw [beq_eq_false_iff_ne]; omega
        go_enter Tryz.func81, Tryz.ntmps81
        go_wp2
        go_ret
        exact ⟨rfl, by (show Grew _ _; repeat (first | exact Grew.refl _ | refine Grew.alloc ?_ _ | refine Grew.drew ?_ | refine Grew.more ?_ _))⟩
    · obtain ⟨r, h1, _, h3⟩ := div_some a b (by omega) (by omega) h
      obtain ⟨q, hq0⟩ : ∃ q, Ieee.double.word (decide (a < 0) ^^ decide (b < 0)) r = q := ⟨_, rfl⟩
      have hw : q < 18446744073709551616 := by rw [← hq0, word_val]; split <;> omega
      rw [hq0] at h3
      have hc : cleanB q = ofB a b := by
        unfold ofB
        rw [if_neg h, h3]
        rfl
      have HC := Lib.hid hc
      have hq := quo_run _ _ _ h3
      have haa : (a == 0) = false := by rw [beq_eq_false_iff_ne]; omega
      clear h3 hc hq0
      generalize ofB a b = R at *
      generalize intB a = x at *
      generalize intB b = y at *
      unfold Gives
      rcases (by omega : (0 < a ∧ 0 < b) ∨ (a < 0 ∧ b < 0)) with ⟨k1, k2⟩ | ⟨k1, k2⟩
      all_goals
        clear h0
        go_enter Tryz.func81, Tryz.ntmps81
        go_wp2_with (go_at_call 86; refine (rclean_to _ _ hw HC.out _).mono ?_; rintro e w' ⟨rfl, rfl⟩)
        go_ret
        exact ⟨rfl, by (show Grew _ _; repeat (first | exact Grew.refl _ | refine Grew.alloc ?_ _ | refine Grew.drew ?_ | refine Grew.more ?_ _))⟩
end Go.Proofs.YtbglmcebkpkccaaGreatDoor

/- Layer 28: parts of counts by shares, by the program and by the document's own answer; its example. No condition but that bits are 64. -/
namespace Go.Proofs.YtbglmcebkpkccaaGreatDoor
open Go.RowKit
attribute [local go_sem] more_cell more_frozen more_more more_setCell more_of_drew more_of_drewN lt_more le_more past_cell past_cell2 past_frozen past_frozen2 past_setCell past_setCell2 mid_cell mid_frozen mid_setCell
attribute [local go_sem ↓] Go.wp_at_zero Go.wp_at_succ

attribute [local irreducible] FloatKind.decode in
theorem integral_num (nm : String) (way : Ieee.Toward) (r : Nat) (s : Bool) (m : Nat) (i : Int) (hd : FloatKind.f64.decode r = .number s m i) :
    Extern.MathFloor.toIntegral nm way #[.float .f64 r] = pure (.float .f64 (FloatKind.f64.encode (Ieee.Datum.integral way (.number s m i)))) := by
  conv => lhs; whnf
  rw [hd]
theorem arch_run (r : Nat) (h : r < 9218868437227405312) (W : World) : (callFunc 124 #[.float .f64 r]).run Tryz.prog W = .ok (.value (.float .f64 (rndR (ceilR r) 0))) W := by
  rw [run_callFunc_extern Tryz.func124 (by kernel_rfl) (by kernel_rfl) (by kernel_rfl) (e := Extern.MathFloor.toIntegral "math.archCeil" .up) (by kernel_rfl)]
  obtain ⟨m, a, e1, e2⟩ := read_pos h
  have hd : FloatKind.f64.decode r = .number false m (-1074 + (a : Int)) := e1
  have hw : FloatKind.f64.encode (Ieee.Datum.integral .up (.number false m (-1074 + (a : Int)))) = rndR (ceilR r) 0 := by
    show Ieee.double.nearest false (Ieee.Toward.up.cut false (m <<< (-1074 + (a : Int)).toNat) (-(-1074 + (a : Int))).toNat) 0 = _
    rw [ceil_read e2, nearest_word, word_val]
    simp
  rw [integral_num _ _ _ _ _ _ hd, hw]
  rfl
theorem ceil_any (r : Nat) (h : r < 9218868437227405312) (w : World) : Calls Tryz.prog 92 #[.float .f64 r] w fun e w' => e = .returned (.float .f64 (rndR (ceilR r) 0)) ∧ w' = w := by
  have ha := arch_run r h
  clear h
  generalize rndR (ceilR r) 0 = q at *
  go_enter Tryz.func92, Tryz.ntmps92
  go_wp2
  go_ret
  exact ⟨rfl, rfl⟩
theorem toint_run (r : Nat) (h : r < 9218868437227405312) (hf : floorR r ≤ 9223372036854775807) (W : World) : (convert 43 3 (.float .f64 r)).run Tryz.prog W = .ok (.int .i64 (floorR r : Int)) W := by
  refine run_convert_float_int W _ _ _ _ _ _ (by kernel_rfl) Tryz.underlying3 ?_
  obtain ⟨m, a, e1, e2⟩ := read_pos h
  have hd : (FloatKind.f64.decode r).toInt .zero = some (floorR r : Int) := by
    show (Ieee.double.read r).toInt .zero = _
    rw [e1]
    show some (Ieee.signed false (Ieee.Toward.zero.cut false (m <<< (-1074 + (a : Int)).toNat) (-(-1074 + (a : Int))).toNat) 0) = _
    rw [floor_read false e2, signed_sg]
    unfold sgI
    simp
  unfold floatToIntVal
  rw [hd]
  simp only
  rw [if_pos]
  constructor
  · show (-9223372036854775808 : Int) ≤ _; omega
  · show _ ≤ (9223372036854775807 : Int); omega
theorem rungv_ten (e : Nat) : rungv ((e + 11) * 4503599627370496) = 4503599627370496 * 2 ^ (e + 10) := by
  unfold rungv
  rw [if_neg (by omega), Nat.mul_div_cancel _ (by omega), Nat.mul_mod_left, Nat.add_zero]
  rfl
theorem rep_most : Rep 4611686018427387904 := by
  refine ⟨(eT + 11) * 4503599627370496, by rw [eT_eq]; decide, ?_⟩
  rw [rungv_ten, unitT_eq, Nat.pow_add 2 eT 10]
  generalize 2 ^ eT = z
  omega
theorem rndR_up {m n : Nat} (h : m ≤ n) : rndR m 0 ≤ rndR n 0 := rndR_mono 0 (by omega) (by omega) (by simpa using h)
/-- The float of a count. -/
def cntR (n : Int) : Nat := rndR (cutI n).toNat 0
theorem cntR_lt (n : Int) : cntR n < 9218868437227405312 := rndR_small (by have := cutI_s n; unfold sI at this; omega)
theorem intB_cut (n : Int) : floatOfInt .f64 (cutI n) = cntR n := by
  have hs := cutI_s n
  unfold sI at hs
  rw [float_int]
  unfold intB cntR
  have : (cutI n).natAbs = (cutI n).toNat := by omega
  rw [decide_eq_false (by omega), word_val, this, if_neg (by decide)]
def prodR (n : Int) (f : Nat) : Nat := mulR (cntR n) (cleanB f)
/-- The float of the greatest count. -/
def topR : Nat := rndR 4611686018427387904 0
theorem topR_is : topR < 9218868437227405312 ∧ rungv topR = 4611686018427387904 * unitT := rep_round rep_most
theorem cntR_le (n : Int) : cntR n ≤ topR := by
  have hs := cutI_s n
  unfold sI at hs
  exact rndR_up (by omega)
theorem prodR_le (n : Int) (f : Nat) : prodR n f ≤ topR := Nat.le_trans (mulR_le (cntR_lt n) (cleanB_le f)) (cntR_le n)
attribute [irreducible] topR
theorem prodR_lt (n : Int) (f : Nat) : prodR n f < 9218868437227405312 := by
  have h1 := prodR_le n f
  have h2 := topR_is.1
  omega
theorem ceil_top : ceilR topR = 4611686018427387904 := by
  unfold ceilR
  rw [topR_is.2]
  exact ceilN_eq unitT_pos (Nat.le_refl _) (by have := unitT_pos; omega)
theorem ceil_most (n : Int) (f : Nat) : ceilR (prodR n f) ≤ 4611686018427387904 := by
  have h1 : ceilR (prodR n f) ≤ ceilR topR := ceilN_mono unitT_pos (rungv_le (prodR_le n f))
  rw [ceil_top] at h1
  exact h1
theorem floor_rep {k : Nat} (h : Rep k) : floorR (rndR k 0) = k := by
  unfold floorR
  rw [(rep_round h).2, Nat.mul_div_cancel _ unitT_pos]
theorem mul_run (x y r : Nat) (h : Ieee.double.mul x y = some r) (W : World) : (binOp .mul 43 (.float .f64 x) (.float .f64 y)).run Tryz.prog W = .ok (.float .f64 r) W :=
  run_float_arith W .mul _ .f64 x y r h
/-- So much of n, rounded up. -/
def scaleI (n : Int) (f : Nat) : Int := min (cutI n) (ceilR (prodR n f) : Int)
theorem scale_any (n : Int) (f : Nat) (hf : f < 18446744073709551616) (w : World) : Calls Tryz.prog 53 #[.int .i64 n, .float .f64 f] w fun e w' => e = .returned (.int .i64 (scaleI n f)) ∧ w' = w := by
  have hi := intB_cut n
  have hm := mul_run _ _ _ (mul_some (cntR_lt n) (show cleanB f < 9218868437227405312 by have := cleanB_le f; omega))
  have hp := prodR_lt n f
  have hc := ceil_most n f
  have hrep := rep_ceil hp
  have ht := toint_run (rndR (ceilR (prodR n f)) 0) (rep_round hrep).1 (by rw [floor_rep hrep]; omega)
  rw [floor_rep hrep] at ht
  have HM : ∀ W : World, (binOp .mul 43 (.float .f64 (cntR n)) (.float .f64 (cleanB f))).run Tryz.prog W = .ok (.float .f64 (prodR n f)) W := hm
  have HC := Lib.hid (ceil_any (prodR n f) hp)
  have HF := Lib.hid (clean_any f hf)
  unfold scaleI
  clear hm hp hrep hf hc
  generalize prodR n f = p at *
  generalize ceilR p = k at *
  generalize rndR k 0 = q at *
  generalize cleanB f = y at *
  generalize cntR n = x at *
  go_enter Tryz.func53, Tryz.ntmps53
  go_wp2_with (first | (go_at_call 74; refine (cut_any _ _).mono ?_; rintro e w' ⟨rfl, rfl⟩) | (go_at_call 93; refine (HF.out _).mono ?_; rintro e w' ⟨rfl, rfl⟩) | (go_at_call 92; refine (HC.out _).mono ?_; rintro e w' ⟨rfl, rfl⟩))
  go_ret
  exact ⟨rfl, rfl⟩
theorem rscale_any (n : Int) (f : Nat) (hf : f < 18446744073709551616) (w : World) : Calls Tryz.prog 42 #[.int .i64 n, .float .f64 f] w fun e w' => e = .returned (.int .i64 (scaleI n f)) ∧ w' = w := by
  have hi := intB_cut n
  have hm := mul_run _ _ _ (mul_some (cntR_lt n) (show cleanB f < 9218868437227405312 by have := cleanB_le f; omega))
  have hp := prodR_lt n f
  have hc := ceil_most n f
  have hcf := ceil_floor (prodR n f)
  have hfl : floorR (prodR n f) ≤ 4611686018427387904 := by split at hcf <;> omega
  have hrep := rep_floor hp
  have hrr := rep_round hrep
  have ht := toint_run (prodR n f) hp (by omega)
  have HM : ∀ W : World, (binOp .mul 43 (.float .f64 (cntR n)) (.float .f64 (cleanB f))).run Tryz.prog W = .ok (.float .f64 (prodR n f)) W := hm
  have HF := Lib.hid (rclean_any f hf)
  have hk : floatOfInt .f64 (floorR (prodR n f) : Int) = rndR (floorR (prodR n f)) 0 := by
    rw [float_int]
    unfold intB
    rw [decide_eq_false (by omega), word_val, if_neg (by decide), Int.natAbs_natCast]
  have hord : FloatKind.f64.format.order (rndR (floorR (prodR n f)) 0) (prodR n f) = if floorR (prodR n f) * unitT < rungv (prodR n f) then some .lt else some .eq := by
    rw [ord_pos (by omega) (by omega)]
    have hle := floor_le (prodR n f)
    rw [← hrr.2] at hle ⊢
    split
    · rename_i h
      congr 1
      refine cmp_lt ?_
      rcases Nat.lt_or_ge (rndR (floorR (prodR n f)) 0) (prodR n f) with h1 | h1
      · exact h1
      · have := rungv_le h1; omega
    · rename_i h
      have : rndR (floorR (prodR n f)) 0 = prodR n f := rungv_inj (by omega)
      rw [this]
      congr 1
      exact Nat.compare_eq_eq.2 rfl
  have hs := cutI_s n
  unfold sI at hs
  obtain ⟨s0, s1⟩ := hs
  unfold scaleI
  clear hm hp hrep hrr hf
  rw [hcf] at hc ⊢
  clear hcf
  by_cases hb : floorR (prodR n f) * unitT < rungv (prodR n f)
  · rw [if_pos hb] at hord hc ⊢
    clear hb
    generalize prodR n f = p at *
    generalize floorR p = k at *
    generalize rndR k 0 = q at *
    generalize cleanB f = y at *
    generalize cntR n = x at *
    go_enter Tryz.func42, Tryz.ntmps42
    go_wp2_with (first | (go_at_call 85; refine (rcut_any _ _).mono ?_; rintro e w' ⟨rfl, rfl⟩) | (go_at_call 86; refine (HF.out _).mono ?_; rintro e w' ⟨rfl, rfl⟩))
    all_goals
      go_ret
      exact ⟨ret_int (by omega), rfl⟩
  · rw [if_neg hb] at hord hc ⊢
    clear hb
    generalize prodR n f = p at *
    generalize floorR p = k at *
    generalize rndR k 0 = q at *
    generalize cleanB f = y at *
    generalize cntR n = x at *
    go_enter Tryz.func42, Tryz.ntmps42
    go_wp2_with (first | (go_at_call 85; refine (rcut_any _ _).mono ?_; rintro e w' ⟨rfl, rfl⟩) | (go_at_call 86; refine (HF.out _).mono ?_; rintro e w' ⟨rfl, rfl⟩))
    all_goals
      go_ret
      exact ⟨ret_int (by omega), rfl⟩
theorem scaleI_s (n : Int) (f : Nat) : 0 ≤ scaleI n f ∧ scaleI n f ≤ cutI n := by
  have := cutI_s n
  unfold sI at this
  unfold scaleI
  omega
theorem scaleI_up {n m : Int} {f g : Nat} (h : cutI n ≤ cutI m) (hf : cleanB f ≤ cleanB g) : scaleI n f ≤ scaleI m g := by
  have h1 := rungv_le hf
  have h2 : rungv (cntR n) ≤ rungv (cntR m) := rungv_le (rndR_up (by have := cutI_s n; have := cutI_s m; unfold sI at *; omega))
  have c1 := cleanB_le f
  have c2 := cleanB_le g
  have h3 : prodR n f ≤ prodR m g := mulR_mono (cntR_lt n) (by omega) (cntR_lt m) (by omega) (Nat.mul_le_mul h2 h1)
  have h4 : ceilR (prodR n f) ≤ ceilR (prodR m g) := ceilN_mono unitT_pos (rungv_le h3)
  unfold scaleI
  omega
end Go.Proofs.YtbglmcebkpkccaaGreatDoor

/- The laws of shares of floats and of quotients, and of parts of counts, of layer 28. No condition but that bits are 64. -/
namespace Go.Proofs.YtbglmcebkpkccaaGreatDoor
open Go.RowKit
attribute [local go_sem] more_cell more_frozen more_more more_setCell more_of_drew more_of_drewN lt_more le_more past_cell past_cell2 past_frozen past_frozen2 past_setCell past_setCell2 mid_cell mid_frozen mid_setCell
attribute [local go_sem ↓] Go.wp_at_zero Go.wp_at_succ

theorem live_scale : scaleI 10 4598175219545276416 = 3 := by decide +kernel
theorem of_to (a b : Int) (r : Nat) (ha : isI64 a) (hb : isI64 b) (h : ofB a b = r) (w : World) : Gives Tryz.prog 111 #[.int .i64 a, .int .i64 b] w (.float .f64 r) := by
  rw [← h]
  exact fof_any a b ha hb w
theorem scale_to (n : Int) (f : Nat) (r : Int) (hf : f < 18446744073709551616) (h : scaleI n f = r) (w : World) : Calls Tryz.prog 53 #[.int .i64 n, .float .f64 f] w fun e w' => e = .returned (.int .i64 r) ∧ w' = w := by
  rw [← h]
  exact scale_any n f hf w
end Go.Proofs.YtbglmcebkpkccaaGreatDoor

namespace Go.Proofs.YtbglmcebkpkccaaGreatDoor
open Go.RowKit
attribute [local go_sem] more_cell more_frozen more_more more_setCell more_of_drew more_of_drewN lt_more le_more past_cell past_cell2 past_frozen past_frozen2 past_setCell past_setCell2 mid_cell mid_frozen mid_setCell
attribute [local go_sem ↓] Go.wp_at_zero Go.wp_at_succ

def notB (f : Nat) : Nat := (Ieee.double.sub 4607182418800017408 (cleanB f)).getD 0
theorem notB_is (f : Nat) : Ieee.double.sub 4607182418800017408 (cleanB f) = some (notB f) ∧ notB f ≤ 4607182418800017408 := by
  obtain ⟨r, h1, h2⟩ := sub_one (cleanB_le f)
  unfold notB
  rw [h1]
  exact ⟨rfl, h2⟩
theorem sub_run (x y r : Nat) (h : Ieee.double.sub x y = some r) (W : World) : (binOp .sub 43 (.float .f64 x) (.float .f64 y)).run Tryz.prog W = .ok (.float .f64 r) W :=
  run_float_arith W .sub _ .f64 x y r h
theorem add_run (x y r : Nat) (h : Ieee.double.add x y = some r) (W : World) : (binOp .add 43 (.float .f64 x) (.float .f64 y)).run Tryz.prog W = .ok (.float .f64 r) W :=
  run_float_arith W .add _ .f64 x y r h
theorem fnot_any (f : Nat) (hf : f < 18446744073709551616) (w : World) : Calls Tryz.prog 129 #[.float .f64 f] w fun e w' => e = .returned (.float .f64 (notB f)) ∧ w' = w := by
  have hs := sub_run _ _ _ (notB_is f).1
  have HC := Lib.hid (clean_any f hf)
  clear hf
  generalize notB f = r at *
  generalize cleanB f = c at *
  go_enter Tryz.func129, Tryz.ntmps129
  go_wp2_with (go_at_call 93; refine (HC.out _).mono ?_; rintro e w' ⟨rfl, rfl⟩)
  go_ret
  exact ⟨rfl, rfl⟩
theorem frnot_any (f : Nat) (hf : f < 18446744073709551616) (w : World) : Calls Tryz.prog 80 #[.float .f64 f] w fun e w' => e = .returned (.float .f64 (notB f)) ∧ w' = w := by
  have hs := sub_run _ _ _ (notB_is f).1
  have HC := Lib.hid (rclean_any f hf)
  clear hf
  generalize notB f = r at *
  generalize cleanB f = c at *
  go_enter Tryz.func80, Tryz.ntmps80
  go_wp2_with (go_at_call 86; refine (HC.out _).mono ?_; rintro e w' ⟨rfl, rfl⟩)
  go_ret
  exact ⟨rfl, rfl⟩
theorem mulR_share {x y : Nat} (hx : x ≤ 4607182418800017408) (hy : y ≤ 4607182418800017408) : mulR x y ≤ 4607182418800017408 := Nat.le_trans (mulR_le (by omega) hy) hx
/-- One of two shares. -/
def orB (a b : Nat) : Nat := cleanB ((Ieee.double.sub ((Ieee.double.add (cleanB a) (cleanB b)).getD 0) (mulR (cleanB a) (cleanB b))).getD 0)
theorem orB_is (a b : Nat) : ∃ s t, Ieee.double.add (cleanB a) (cleanB b) = some s ∧ Ieee.double.sub s (mulR (cleanB a) (cleanB b)) = some t ∧ t < 18446744073709551616 ∧ cleanB t = orB a b := by
  obtain ⟨s, h1, h2⟩ := add_share (cleanB_le a) (cleanB_le b)
  have h3 := mulR_share (cleanB_le a) (cleanB_le b)
  obtain ⟨t, h4⟩ := sub_fin (x := s) (y := mulR (cleanB a) (cleanB b)) (by rw [rung_pos h2]; exact h2) (by rw [rung_pos (by omega)]; omega)
  refine ⟨s, t, h1, h4, sub_lt h4, ?_⟩
  unfold orB
  rw [h1, Option.getD_some, h4, Option.getD_some]
theorem orB_comm (a b : Nat) : orB b a = orB a b := by
  unfold orB
  rw [add_comm (cleanB b), mulR_comm (cleanB b)]
theorem fo_or_any (a b : Nat) (ha : a < 18446744073709551616) (hb : b < 18446744073709551616) (w : World) : Calls Tryz.prog 130 #[.float .f64 a, .float .f64 b] w fun e w' => e = .returned (.float .f64 (orB a b)) ∧ w' = w := by
  obtain ⟨s, t, h1, h2, h3, h4⟩ := orB_is a b
  have hA := add_run _ _ _ h1
  have hS := sub_run _ _ _ h2
  have hm := mul_run _ _ _ (mul_some (show cleanB a < 9218868437227405312 by have := cleanB_le a; omega) (show cleanB b < 9218868437227405312 by have := cleanB_le b; omega))
  have HC := Lib.hid (clean_any a ha)
  have HD := Lib.hid (clean_any b hb)
  have HT := Lib.hid (clean_to t _ h3 h4)
  clear ha hb h1 h2 h3 h4
  generalize orB a b = r at *
  generalize cleanB a = x at *
  generalize cleanB b = y at *
  generalize mulR x y = p at *
  go_enter Tryz.func130, Tryz.ntmps130
  go_wp2_with (first | (go_at_call 93; (with_reducible refine (HC.out _).mono ?_); rintro e w' ⟨rfl, rfl⟩) | (go_at_call 93; (with_reducible refine (HD.out _).mono ?_); rintro e w' ⟨rfl, rfl⟩) | (go_at_call 93; (with_reducible refine (HT.out _).mono ?_); rintro e w' ⟨rfl, rfl⟩))
  go_ret
  exact ⟨rfl, rfl⟩
theorem fo_ror_any (a b : Nat) (ha : a < 18446744073709551616) (hb : b < 18446744073709551616) (w : World) : Calls Tryz.prog 79 #[.float .f64 a, .float .f64 b] w fun e w' => e = .returned (.float .f64 (orB a b)) ∧ w' = w := by
  obtain ⟨s, t, h1, h2, h3, h4⟩ := orB_is a b
  have hA := add_run _ _ _ h1
  have hS := sub_run _ _ _ h2
  have hm := mul_run _ _ _ (mul_some (show cleanB a < 9218868437227405312 by have := cleanB_le a; omega) (show cleanB b < 9218868437227405312 by have := cleanB_le b; omega))
  have HC := Lib.hid (rclean_any a ha)
  have HD := Lib.hid (rclean_any b hb)
  have HT := Lib.hid (rclean_to t _ h3 h4)
  clear ha hb h1 h2 h3 h4
  generalize orB a b = r at *
  generalize cleanB a = x at *
  generalize cleanB b = y at *
  generalize mulR x y = p at *
  go_enter Tryz.func79, Tryz.ntmps79
  go_wp2_with (first | (go_at_call 86; (with_reducible refine (HC.out _).mono ?_); rintro e w' ⟨rfl, rfl⟩) | (go_at_call 86; (with_reducible refine (HD.out _).mono ?_); rintro e w' ⟨rfl, rfl⟩) | (go_at_call 86; (with_reducible refine (HT.out _).mono ?_); rintro e w' ⟨rfl, rfl⟩))
  go_ret
  exact ⟨rfl, rfl⟩
/-- All shares. -/
def andF (l : List Nat) (a : Nat) : Nat := l.foldl (fun a f => mulR a (cleanB f)) a
theorem andF_le (l : List Nat) : ∀ a, a ≤ 4607182418800017408 → andF l a ≤ a := by
  induction l with
  | nil => intro a _; exact Nat.le_refl _
  | cons f l ih =>
    intro a h
    have h1 := mulR_le (x := a) (by omega) (cleanB_le f)
    have h2 := ih (mulR a (cleanB f)) (by omega)
    show andF l (mulR a (cleanB f)) ≤ a
    omega
theorem andF_part (l : List Nat) : ∀ a, a ≤ 4607182418800017408 → ∀ f ∈ l, andF l a ≤ cleanB f := by
  induction l with
  | nil => intro a _ f hf; cases hf
  | cons g l ih =>
    intro a h f hf
    have h1 := mulR_le (x := a) (by omega) (cleanB_le g)
    show andF l (mulR a (cleanB g)) ≤ cleanB f
    rcases List.mem_cons.1 hf with rfl | hf
    · have h2 := andF_le l (mulR a (cleanB f)) (by omega)
      have h3 := mulR_le (x := cleanB f) (y := a) (by have := cleanB_le f; omega) h
      rw [mulR_comm] at h3
      omega
    · exact ih _ (by omega) f hf
theorem andF_take (l : List Nat) (a : Nat) (k : Nat) (h : k < l.length) : andF (l.take (k + 1)) a = mulR (andF (l.take k) a) (cleanB l[k]) := by
  rw [List.take_succ_eq_append_getElem h]
  unfold andF
  rw [List.foldl_append]
  rfl
def FkAndAt (l : List Nat) (x i : Value) : Prop := ∃ k : Nat, k ≤ l.length ∧ i = .int .i64 k ∧ x = .float .f64 (andF (l.take k) 4607182418800017408)
theorem fo_and_any (l : List Nat) (A : Option Addr) (c : Nat) (hl : l.length ≤ 1000000) (hall : ∀ x ∈ l, x < 18446744073709551616) (w : World) (hr : Row w A (l.map (Value.float .f64))) :
    Calls Tryz.prog 55 #[.slice A l.length c] w fun e w' => e = .returned (.float .f64 (andF l 4607182418800017408)) ∧ w' = w := by
  have HR := Lib.hid hr
  have HA := Lib.hid hall
  clear hr hall
  go_enter Tryz.func55, Tryz.ntmps55
  go_wp2
  go_loop [3, 8] (fun x i => FkAndAt l x i) (fun _ i => l.length - (intOf i).toNat)
  case atStart => exact ⟨0, Nat.zero_le _, rfl, rfl⟩
  case round =>
    obtain ⟨k, hk, rfl, rfl⟩ := hrel
    by_cases h : k < l.length
    · obtain ⟨b, o, rfl, hb, hc⟩ := HR.out.at_ (k := k) (by simpa using h)
      simp only [List.getElem_map] at hc
      have HT := Lib.hid (andF_take l 4607182418800017408 k h)
      have hle := andF_le (l.take k) 4607182418800017408 (by omega)
      have hm := mul_run _ _ _ (mul_some (show andF (l.take k) 4607182418800017408 < 9218868437227405312 by omega) (show cleanB l[k] < 9218868437227405312 by have := cleanB_le l[k]; omega))
      have HC := Lib.hid (clean_any l[k] (HA.out _ (List.getElem_mem h)))
      clear hle
      generalize andF (l.take k) 4607182418800017408 = x at *
      generalize cleanB l[k] = y at *
      generalize l[k] = z at *
      go_wp2_with (go_at_call 93; refine (HC.out _).mono ?_; rintro e w' ⟨rfl, rfl⟩)
      case roundEnd => exact ⟨⟨k + 1, by omega, by simp, by rw [HT.out]⟩, by simp only [intOf]; omega⟩
    · obtain rfl : k = l.length := by omega
      rw [List.take_length]
      go_wp2
      go_ret
      exact ⟨rfl, rfl⟩
theorem fo_rand_any (l : List Nat) (A : Option Addr) (c : Nat) (hl : l.length ≤ 1000000) (hall : ∀ x ∈ l, x < 18446744073709551616) (w : World) (hr : Row w A (l.map (Value.float .f64))) :
    Calls Tryz.prog 44 #[.slice A l.length c] w fun e w' => e = .returned (.float .f64 (andF l 4607182418800017408)) ∧ w' = w := by
  have HR := Lib.hid hr
  have HA := Lib.hid hall
  clear hr hall
  go_enter Tryz.func44, Tryz.ntmps44
  go_wp2
  go_loop [3, 4] (fun x i => FkAndAt l x i) (fun _ i => l.length - (intOf i).toNat)
  case atStart => exact ⟨0, Nat.zero_le _, rfl, rfl⟩
  case round =>
    obtain ⟨k, hk, rfl, rfl⟩ := hrel
    by_cases h : k < l.length
    · obtain ⟨b, o, rfl, hb, hc⟩ := HR.out.at_ (k := k) (by simpa using h)
      simp only [List.getElem_map] at hc
      have HT := Lib.hid (andF_take l 4607182418800017408 k h)
      have hle := andF_le (l.take k) 4607182418800017408 (by omega)
      have hm := mul_run _ _ _ (mul_some (show andF (l.take k) 4607182418800017408 < 9218868437227405312 by omega) (show cleanB l[k] < 9218868437227405312 by have := cleanB_le l[k]; omega))
      have HC := Lib.hid (rclean_any l[k] (HA.out _ (List.getElem_mem h)))
      clear hle
      generalize andF (l.take k) 4607182418800017408 = x at *
      generalize cleanB l[k] = y at *
      generalize l[k] = z at *
      go_wp2_with (go_at_call 86; refine (HC.out _).mono ?_; rintro e w' ⟨rfl, rfl⟩)
      case roundEnd => exact ⟨⟨k + 1, by omega, by simp, by rw [HT.out]⟩, by simp only [intOf]; omega⟩
    · obtain rfl : k = l.length := by omega
      rw [List.take_length]
      go_wp2
      go_ret
      exact ⟨rfl, rfl⟩
end Go.Proofs.YtbglmcebkpkccaaGreatDoor
