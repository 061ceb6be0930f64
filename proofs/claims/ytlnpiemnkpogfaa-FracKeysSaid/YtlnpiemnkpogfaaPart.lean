/- Layer 26: parts of counts, quotients and digits, by the program and by the document's own answer. -/
import Derived.Test.YtlnpiemnkpogfaaDiv2
namespace Go.Proofs.Ytlnpiemnkpogfaa
open Go.RowKit
attribute [local go_sem] more_cell more_frozen more_more more_setCell more_of_drew more_of_drewN lt_more le_more past_cell past_cell2 past_frozen past_frozen2 past_setCell past_setCell2 mid_cell mid_frozen mid_setCell
attribute [local go_sem ↓] Go.wp_at_zero Go.wp_at_succ

theorem mul64_p (x y p : Int) (x0 : 0 ≤ x) (x1 : x < 18446744073709551616) (y0 : 0 ≤ y) (y1 : y < 18446744073709551616) (hp : x * y = p) (w : World) : Calls Try.prog 73 #[.int .u64 x, .int .u64 y] w fun e w' => e = .returned (.tuple #[.int .u64 (p / 18446744073709551616), .int .u64 (p % 18446744073709551616)]) ∧ w' = w := by
  rw [← hp]
  exact mul64_int x y x0 x1 y0 y1 w
theorem add64_run (x y r c : Int) (hx : 0 ≤ x) (hy : 0 ≤ y) (h : x + y = c * 18446744073709551616 + r) (r0 : 0 ≤ r) (r1 : r < 18446744073709551616) (W : World) :
    (callFunc 74 #[.int .u64 x, .int .u64 y, .int .u64 0]).run Try.prog W = .ok (.value (.tuple #[.int .u64 r, .int .u64 c])) W := by
  rw [run_callFunc_extern Try.func74 (by kernel_rfl) (by kernel_rfl) (by kernel_rfl) (e := add64Entry) (by kernel_rfl), run_add64 x y 0 hx hy (by decide) (by decide)]
  have e1 : (x + y + 0) % 18446744073709551616 = r := by omega
  have e2 : (x + y + 0) / 18446744073709551616 = c := by omega
  rw [e1, e2]
  rfl
theorem part_any (n num den : Int) (w : World) : Gives Try.prog 15 #[.int .i64 n, .int .i64 num, .int .i64 den] w (.int .i64 (partI (cutI n) (cutI num) (cutI den))) := by
  have hx := cutI_s n
  have hy := cutI_s num
  have hz := cutI_s den
  unfold sI at hx hy hz
  obtain ⟨x0, x1⟩ := hx
  obtain ⟨y0, y1⟩ := hy
  obtain ⟨z0, z1⟩ := hz
  by_cases hd : cutI den ≤ cutI num
  · have hr : partI (cutI n) (cutI num) (cutI den) = cutI n := by unfold partI; rw [if_pos hd]
    rw [hr]
    clear hr
    by_cases h0 : cutI den = 0
    all_goals
      unfold Gives
      go_enter Try.func15, Try.ntmps15
      go_wp2_with (go_at_call 72; refine (cut_any _ _).mono ?_; rintro e w' ⟨rfl, rfl⟩)
      go_ret
      exact ⟨rfl, by (show Grew _ _; repeat (first | exact Grew.refl _ | refine Grew.alloc ?_ _ | refine Grew.drew ?_ | refine Grew.more ?_ _))⟩
  · have hr : partI (cutI n) (cutI num) (cutI den) = (cutI n * cutI num + (cutI den - 1)) / cutI den := by unfold partI; rw [if_neg hd]
    obtain ⟨p, hp⟩ : ∃ p, cutI n * cutI num = p := ⟨_, rfl⟩
    have p0 : 0 ≤ p := by rw [← hp]; exact Int.mul_nonneg x0 y0
    have p1 : p ≤ 4611686018427387904 * (cutI den - 1) := by
      rw [← hp]
      have h1 : cutI n * cutI num ≤ cutI n * (cutI den - 1) := Int.mul_le_mul_of_nonneg_left (by omega) x0
      have h2 : cutI n * (cutI den - 1) ≤ 4611686018427387904 * (cutI den - 1) := Int.mul_le_mul_of_nonneg_right x1 (by omega)
      omega
    have p2 : 0 ≤ (p + (cutI den - 1)) / cutI den ∧ (p + (cutI den - 1)) / cutI den ≤ 4611686018427387904 := by
      have := partI_s (n := cutI n) (num := cutI num) (den := cutI den) x0 y0
      rw [hr, hp] at this
      omega
    rw [hr, hp]
    have HP := Lib.hid hp
    clear hr hp
    obtain ⟨c, r, hcr, r0, r1⟩ : ∃ c r, p % 18446744073709551616 + (cutI den - 1) = c * 18446744073709551616 + r ∧ 0 ≤ r ∧ r < 18446744073709551616 := ⟨(p % 18446744073709551616 + (cutI den - 1)) / 18446744073709551616, (p % 18446744073709551616 + (cutI den - 1)) % 18446744073709551616, by omega, by omega, by omega⟩
    have hc0 : 0 ≤ c := by omega
    have hc1 : c ≤ 1 := by omega
    have hadd := add64_run (p % 18446744073709551616) (cutI den - 1) r c (by omega) (by omega) hcr r0 r1
    have hq : ((p / 18446744073709551616 + c) * 18446744073709551616 + r) / cutI den = (p + (cutI den - 1)) / cutI den := by
      rw [show (p / 18446744073709551616 + c) * 18446744073709551616 + r = p + (cutI den - 1) by omega]
    have HQ := Lib.hid hq
    have h3 : p / 18446744073709551616 + c < cutI den := by omega
    have h4 : 0 ≤ p / 18446744073709551616 := by omega
    clear hcr hq
    have hdb : (cutI den == 0) = false := by rw [beq_eq_false_iff_ne]; omega
    have p4 := p2.1
    have p5 := p2.2
    clear p2
    have w1 : IntKind.u64.wrap (cutI n) = cutI n := IntWalk.u64_in _ (by omega)
    have w2 : IntKind.u64.wrap (cutI num) = cutI num := IntWalk.u64_in _ (by omega)
    have w3 : IntKind.u64.wrap (cutI den) = cutI den := IntWalk.u64_in _ (by omega)
    unfold Gives
    go_enter Try.func15, Try.ntmps15
    go_wp2_with (first | (go_at_call 72; refine (cut_any _ _).mono ?_; rintro e w' ⟨rfl, rfl⟩) | (go_at_call 73; refine (mul64_p _ _ p (by omega) (by omega) (by omega) (by omega) HP.out _).mono ?_; rintro e w' ⟨rfl, rfl⟩) | (go_at_call 75; refine (div_any _ _ _ (by omega) h3 (by omega) r0 r1 _).mono ?_; rintro e w' ⟨rr, rfl, xx, rfl⟩; rw [HQ.out]))
    go_ret
    exact ⟨rfl, by (show Grew _ _; repeat (first | exact Grew.refl _ | refine Grew.alloc ?_ _ | refine Grew.drew ?_ | refine Grew.more ?_ _))⟩
/-- The document's own: digit by digit. -/
def PartAt (n num den : Int) (bit quo rem : Value) : Prop :=
  ∃ (k : Nat) (q r : Int), k ≤ 63 ∧ bit = .int .i64 (bitI k) ∧ quo = .int .i64 q ∧ rem = .int .i64 r ∧ 0 ≤ q ∧ q ≤ headI n k ∧ 0 ≤ r ∧ r < den ∧ headI n k * num = q * den + r
theorem step_part {N num den q r b : Int} (h : N * num = q * den + r) : (2 * N + b) * num = 2 * q * den + (2 * r + b * num) := by
  have e : (2 * N + b) * num = 2 * (N * num) + b * num := by rw [Int.add_mul, Int.mul_assoc]
  rw [e, h, Int.mul_assoc]
  omega
theorem quo_le {q z r N y : Int} (h : q * z + r = N * y) (hr : 0 ≤ r) (hy : y < z) (hN : 0 ≤ N) (h0 : 0 ≤ y) : q ≤ N := by
  rcases (by omega : q ≤ N ∨ N + 1 ≤ q) with h1 | h1
  · exact h1
  · have h2 := Int.mul_le_mul_of_nonneg_right h1 (by omega : 0 ≤ z)
    have h3 := Int.mul_le_mul_of_nonneg_left (by omega : y ≤ z) hN
    rw [Int.add_mul] at h2
    omega
theorem one_mul_up (q den : Int) : (q + 1) * den = q * den + den := by rw [Int.add_mul, Int.one_mul]
set_option maxHeartbeats 1000000 in
theorem rpart_any (n num den : Int) (w : World) : Calls Try.prog 18 #[.int .i64 n, .int .i64 num, .int .i64 den] w fun e w' => e = .returned (.int .i64 (partI (cutI n) (cutI num) (cutI den))) ∧ w' = w := by
  have hx := cutI_s n
  have hy := cutI_s num
  have hz := cutI_s den
  unfold sI at hx hy hz
  obtain ⟨x0, x1⟩ := hx
  obtain ⟨y0, y1⟩ := hy
  obtain ⟨z0, z1⟩ := hz
  by_cases hd : cutI den ≤ cutI num
  · have hr : partI (cutI n) (cutI num) (cutI den) = cutI n := by unfold partI; rw [if_pos hd]
    rw [hr]
    clear hr
    go_enter Try.func18, Try.ntmps18
    go_wp2_with (go_at_call 19; refine (rcut_any _ _).mono ?_; rintro e w' ⟨rfl, rfl⟩)
    go_ret
    exact ⟨rfl, rfl⟩
  · have hr : partI (cutI n) (cutI num) (cutI den) = (cutI n * cutI num + (cutI den - 1)) / cutI den := by unfold partI; rw [if_neg hd]
    obtain ⟨R, hR⟩ : ∃ R, partI (cutI n) (cutI num) (cutI den) = R := ⟨_, rfl⟩
    rw [hR] at hr ⊢
    clear hR
    have HR := Lib.hid hr
    clear hr
    go_enter Try.func18, Try.ntmps18
    go_wp2_with (go_at_call 19; refine (rcut_any _ _).mono ?_; rintro e w' ⟨rfl, rfl⟩)
    generalize cutI n = x at *
    generalize cutI num = y at *
    generalize cutI den = z at *
    go_loop [12, 10, 11] (fun b q r => PartAt x y z b q r) (fun b _ _ => (intOf b).toNat)
    case atStart => exact ⟨0, 0, 0, by omega, by rfl, rfl, rfl, by omega, by unfold headI; rw [if_pos rfl]; omega, by omega, by omega, by unfold headI; rw [if_pos rfl]; omega⟩
    case round =>
      obtain ⟨k, q, r, hk, rfl, rfl, rfl, q0, q1, r0, r1, heq⟩ := hrel
      by_cases h : k = 63
      · subst h
        have hb := bitI_last.2
        rw [headI_last] at heq q1
        have HF := Lib.hid (part_up heq r0 r1)
        have HE := Lib.hid heq
        clear heq
        by_cases hr0 : 0 < r
        all_goals
          go_wp2
          go_ret
          refine ⟨ret_int ?_, rfl⟩
          rw [HR.out, HF.out]
          first | rw [if_pos hr0] | rw [if_neg (by omega)]
      · have hk' : k < 63 := by omega
        have b0 := bitI_pos k hk'
        have b1 := bitI_le k (by omega)
        have HN := Lib.hid (headI_next x x0 x1 k hk')
        have b2 := bitI_next k hk'
        have HL := Lib.hid (headI_le x x0 (k + 1) (by omega))
        have HS := Lib.hid (step_part (b := x / bitI k % 2) heq)
        have c0 : 0 ≤ x / bitI k := Int.ediv_nonneg x0 (by omega)
        have c1 : x / bitI k ≤ x := Int.ediv_le_self _ x0
        have d0 : x / bitI k % 2 = 0 ∨ x / bitI k % 2 = 1 := by omega
        have HM : Hid (bitI k / 2 < bitI k) := Lib.hid (by omega)
        have HM0 : Hid (0 ≤ bitI k / 2) := Lib.hid (by omega)
        clear heq
        have q2 : 2 * q ≤ 4611686018427387904 := by have := HL.out; have := HN.out; omega
        have hfin : ∀ q' r', 0 ≤ q' → 0 ≤ r' → r' < z → q' * z + r' = 2 * q * z + (2 * r + x / bitI k % 2 * y) → PartAt x y z (.int .i64 (bitI k / 2)) (.int .i64 q') (.int .i64 r') := by
          intro q' r' a1 a2 a3 a4
          exact ⟨k + 1, q', r', by omega, by rw [b2], rfl, rfl, a1, quo_le (by rw [a4, HN.out, HS.out]) a2 (by omega) HL.out.1 y0, a2, a3, by rw [HN.out, HS.out]; exact a4.symm⟩
        have HFI := Lib.hid hfin
        clear hfin b2
        obtain ⟨t, ht⟩ : ∃ t, x / bitI k % 2 = t := ⟨_, rfl⟩
        have HT := Lib.hid ht
        rw [ht] at d0
        rcases d0 with rfl | rfl
        · rw [ht] at HFI
          have hbit : (x / bitI k % 2 == 1) = false := by rw [ht]; rfl
          clear ht
          by_cases e1 : z ≤ 2 * r
          · go_wp2
            case roundEnd => exact ⟨HFI.out _ _ (by omega) (by omega) (by omega) (by rw [one_mul_up]; omega), by have := HM.out; have := HM0.out; simp only [intOf]; omega⟩
          · go_wp2
            case roundEnd => exact ⟨HFI.out _ _ (by omega) (by omega) (by omega) (by omega), by have := HM.out; have := HM0.out; simp only [intOf]; omega⟩
        · rw [ht, Int.one_mul] at HFI
          have hbit : (x / bitI k % 2 == 1) = true := by rw [ht]; rfl
          clear ht
          by_cases e1 : z ≤ 2 * r
          · by_cases e2 : z ≤ 2 * r - z + y
            · go_wp2
              case roundEnd => exact ⟨HFI.out _ _ (by omega) (by omega) (by omega) (by first | rw [one_mul_up, one_mul_up]; omega | (rw [Int.add_mul]; omega)), by have := HM.out; have := HM0.out; simp only [intOf]; omega⟩
            · go_wp2
              case roundEnd => exact ⟨HFI.out _ _ (by omega) (by omega) (by omega) (by rw [one_mul_up]; omega), by have := HM.out; have := HM0.out; simp only [intOf]; omega⟩
          · by_cases e2 : z ≤ 2 * r + y
            · go_wp2
              case roundEnd => exact ⟨HFI.out _ _ (by omega) (by omega) (by omega) (by rw [one_mul_up]; omega), by have := HM.out; have := HM0.out; simp only [intOf]; omega⟩
            · go_wp2
              case roundEnd => exact ⟨HFI.out _ _ (by omega) (by omega) (by omega) (by omega), by have := HM.out; have := HM0.out; simp only [intOf]; omega⟩
theorem sdiv_any (a b : Int) (w : World) : Calls Try.prog 16 #[.int .i64 a, .int .i64 b] w fun e w' => e = .returned (.int .i64 (divI (cutI a) (cutI b))) ∧ w' = w := by
  have hx := cutI_s a
  have hy := cutI_s b
  unfold sI at hx hy
  obtain ⟨x0, x1⟩ := hx
  obtain ⟨y0, y1⟩ := hy
  have HD := Lib.hid (divI_s x0 x1 y0)
  by_cases h1 : cutI a = 0
  · have hr : divI (cutI a) (cutI b) = 0 := by unfold divI; rw [if_pos h1]
    rw [hr]
    have hb : (cutI a == 0) = true := by rw [h1]; rfl
    clear hr
    go_enter Try.func16, Try.ntmps16
    go_wp2_with (go_at_call 72; refine (cut_any _ _).mono ?_; rintro e w' ⟨rfl, rfl⟩)
    go_ret
    exact ⟨rfl, rfl⟩
  · have hb : (cutI a == 0) = false := by rw [beq_eq_false_iff_ne]; exact h1
    by_cases h2 : cutI b = 0
    · have hr : divI (cutI a) (cutI b) = 4611686018427387904 := by unfold divI; rw [if_neg h1, if_pos h2]
      rw [hr]
      have hb2 : (cutI b == 0) = true := by rw [h2]; rfl
      clear hr
      go_enter Try.func16, Try.ntmps16
      go_wp2_with (go_at_call 72; refine (cut_any _ _).mono ?_; rintro e w' ⟨rfl, rfl⟩)
      go_ret
      exact ⟨rfl, rfl⟩
    · have hb2 : (cutI b == 0) = false := by rw [beq_eq_false_iff_ne]; exact h2
      have hr : divI (cutI a) (cutI b) = (cutI a - 1) / cutI b + 1 := by unfold divI; rw [if_neg h1, if_neg h2]
      rw [hr]
      have d0 : 0 ≤ (cutI a - 1) / cutI b := Int.ediv_nonneg (by omega) (by omega)
      have d1 : (cutI a - 1) / cutI b ≤ cutI a - 1 := Int.ediv_le_self _ (by omega)
      clear hr
      go_enter Try.func16, Try.ntmps16
      go_wp2_with (go_at_call 72; refine (cut_any _ _).mono ?_; rintro e w' ⟨rfl, rfl⟩)
      go_ret
      exact ⟨rfl, rfl⟩
theorem rdiv_any (a b : Int) (w : World) : Calls Try.prog 17 #[.int .i64 a, .int .i64 b] w fun e w' => e = .returned (.int .i64 (divI (cutI a) (cutI b))) ∧ w' = w := by
  have hx := cutI_s a
  have hy := cutI_s b
  unfold sI at hx hy
  obtain ⟨x0, x1⟩ := hx
  obtain ⟨y0, y1⟩ := hy
  have HD := Lib.hid (divI_s x0 x1 y0)
  by_cases h1 : cutI a = 0
  · have hr : divI (cutI a) (cutI b) = 0 := by unfold divI; rw [if_pos h1]
    rw [hr]
    have hb : (cutI a == 0) = true := by rw [h1]; rfl
    clear hr
    go_enter Try.func17, Try.ntmps17
    go_wp2_with (go_at_call 19; refine (rcut_any _ _).mono ?_; rintro e w' ⟨rfl, rfl⟩)
    go_ret
    exact ⟨rfl, rfl⟩
  · have hb : (cutI a == 0) = false := by rw [beq_eq_false_iff_ne]; exact h1
    by_cases h2 : cutI b = 0
    · have hr : divI (cutI a) (cutI b) = 4611686018427387904 := by unfold divI; rw [if_neg h1, if_pos h2]
      rw [hr]
      have hb2 : (cutI b == 0) = true := by rw [h2]; rfl
      clear hr
      go_enter Try.func17, Try.ntmps17
      go_wp2_with (go_at_call 19; refine (rcut_any _ _).mono ?_; rintro e w' ⟨rfl, rfl⟩)
      go_ret
      exact ⟨rfl, rfl⟩
    · have hb2 : (cutI b == 0) = false := by rw [beq_eq_false_iff_ne]; exact h2
      have hr : divI (cutI a) (cutI b) = (cutI a - 1) / cutI b + 1 := by unfold divI; rw [if_neg h1, if_neg h2]
      rw [hr]
      have d0 : 0 ≤ (cutI a - 1) / cutI b := Int.ediv_nonneg (by omega) (by omega)
      have d1 : (cutI a - 1) / cutI b ≤ cutI a - 1 := Int.ediv_le_self _ (by omega)
      clear hr
      go_enter Try.func17, Try.ntmps17
      go_wp2_with (go_at_call 19; refine (rcut_any _ _).mono ?_; rintro e w' ⟨rfl, rfl⟩)
      go_ret
      exact ⟨rfl, rfl⟩
/-- How many digits. -/
def digI (n : Int) : Int := (Lib.bitLen n.toNat : Int)
theorem bits_any (n : Int) (w : World) : Calls Try.prog 20 #[.int .i64 n] w fun e w' => e = .returned (.int .i64 (digI (cutI n))) ∧ w' = w := by
  have hx := cutI_s n
  unfold sI at hx
  obtain ⟨x0, x1⟩ := hx
  have w1 : IntKind.u64.wrap (cutI n) = cutI n := IntWalk.u64_in _ (by omega)
  go_enter Try.func20, Try.ntmps20
  go_wp2_with (first | (go_at_call 72; refine (cut_any _ _).mono ?_; rintro e w' ⟨rfl, rfl⟩) | (go_at_call 76; refine (Try.bits_Len64 _ _ (by omega) (by omega)).mono ?_; rintro e w' ⟨rfl, rfl⟩))
  go_ret
  exact ⟨rfl, rfl⟩
theorem dig_half (n : Int) (h0 : 0 < n) (h1 : n ≤ 4611686018427387904) : digI n = 1 + digI (n / 2) := by
  unfold digI
  rw [Lib.bitLen_half n.toNat (by omega) (by omega)]
  have : (n / 2).toNat = n.toNat / 2 := by omega
  rw [this]
  push_cast
  rfl
theorem dig_zero : digI 0 = 0 := by decide
def BitsAt (R : Int) (x k : Value) : Prop := ∃ n c : Int, 0 ≤ n ∧ n ≤ 4611686018427387904 ∧ x = .int .i64 n ∧ k = .int .i64 c ∧ 0 ≤ c ∧ c + n ≤ 4611686018427387904 ∧ c + digI n = R
theorem rbits_any (n : Int) (w : World) : Calls Try.prog 21 #[.int .i64 n] w fun e w' => e = .returned (.int .i64 (digI (cutI n))) ∧ w' = w := by
  have hx := cutI_s n
  unfold sI at hx
  obtain ⟨x0, x1⟩ := hx
  obtain ⟨R, hR⟩ : ∃ R, digI (cutI n) = R := ⟨_, rfl⟩
  rw [hR]
  have HR := Lib.hid hR
  clear hR
  go_enter Try.func21, Try.ntmps21
  go_wp2_with (go_at_call 19; refine (rcut_any _ _).mono ?_; rintro e w' ⟨rfl, rfl⟩)
  go_loop [3, 4] (fun x k => BitsAt R x k) (fun x _ => (intOf x).toNat)
  case atStart => exact ⟨_, 0, x0, x1, rfl, rfl, by omega, by omega, by rw [HR.out]; omega⟩
  case round =>
    obtain ⟨m, c, m0, m1, rfl, rfl, c0, c1, hc⟩ := hrel
    by_cases h : 0 < m
    · have HH := Lib.hid (dig_half m h m1)
      have HC := Lib.hid hc
      clear hc
      go_wp2
      case roundEnd => exact ⟨⟨m / 2, c + 1, by omega, by omega, rfl, rfl, by omega, by omega, by have := HH.out; have := HC.out; omega⟩, by simp only [intOf]; omega⟩
    · obtain rfl : m = 0 := by omega
      rw [dig_zero] at hc
      obtain rfl : c = R := by omega
      go_wp2
      go_ret
      exact ⟨rfl, rfl⟩
end Go.Proofs.Ytlnpiemnkpogfaa
