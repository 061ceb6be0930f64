/- The law of floats' keys and of the least share, of layer 28. Condition: a slice of floats lies in memory that is there. -/
import Derived.Test.YtlnpiemnkpogfaaLawFrac3
namespace Go.Proofs.Ytlnpiemnkpogfaa
open Go.RowKit
attribute [local go_sem] more_cell more_frozen more_more more_setCell more_of_drew more_of_drewN lt_more le_more past_cell past_cell2 past_frozen past_frozen2 past_setCell past_setCell2 mid_cell mid_frozen mid_setCell
attribute [local go_sem ↓] Go.wp_at_zero Go.wp_at_succ

/-- A number that lies as a float does. -/
def keyB (x : Nat) : Nat := if 9218868437227405312 < x % 9223372036854775808 then 18446744073709551615 else if 9223372036854775808 ≤ x then 18446744073709551615 - x else 9223372036854775808 + x
theorem keyB_lt {x y : Nat} (hx : nanB x = false) (hy : nanB y = false) (hx' : x < 18446744073709551616) (hy' : y < 18446744073709551616) (h : litI x < litI y) : keyB x < keyB y := by
  unfold nanB rungB at hx hy
  rw [decide_eq_false_iff_not] at hx hy
  unfold keyB
  rw [if_neg hx, if_neg hy]
  by_cases h1 : 9223372036854775808 ≤ x
  · rw [if_pos h1]
    by_cases h2 : 9223372036854775808 ≤ y
    · rw [if_pos h2]
      rw [lit_neg x h1 hx', lit_neg y h2 hy'] at h
      rcases Nat.lt_or_ge (y - 9223372036854775808) (x - 9223372036854775808) with h3 | h3
      · omega
      · have := rungv_le h3; omega
    · rw [if_neg h2]; omega
  · rw [if_neg h1]
    by_cases h2 : 9223372036854775808 ≤ y
    · rw [lit_pos x (by omega), lit_neg y h2 hy'] at h
      omega
    · rw [if_neg h2]
      rw [lit_pos x (by omega), lit_pos y (by omega)] at h
      rcases Nat.lt_or_ge x y with h3 | h3
      · omega
      · have := rungv_le h3; omega
theorem xor_all (x : Nat) (h : x < 18446744073709551616) : bits .xor .u64 IntKind.u64.max (x : Int) = ((18446744073709551615 - x : Nat) : Int) := by
  have e1 : IntKind.u64.max = ((18446744073709551615 : Nat) : Int) := by decide
  have e2 : 18446744073709551615 ^^^ x = 18446744073709551615 - x := by
    have hb : (BitVec.allOnes 64 ^^^ BitVec.ofNat 64 x).toNat = (~~~ BitVec.ofNat 64 x).toNat := by rw [BitVec.allOnes_xor]
    rw [BitVec.toNat_xor, BitVec.toNat_not, BitVec.toNat_allOnes, BitVec.toNat_ofNat, Nat.mod_eq_of_lt h] at hb
    exact hb
  rw [e1, u64_xor_nat _ _ (by decide) h, e2]
theorem or_top (x : Nat) (h : x < 9223372036854775808) : bits .or .u64 (x : Int) 9223372036854775808 = ((9223372036854775808 + x : Nat) : Int) := by
  have e1 : (9223372036854775808 : Int) = ((9223372036854775808 : Nat) : Int) := by decide
  have e2 : x ||| 9223372036854775808 = 9223372036854775808 + x := by
    rw [Nat.or_comm]
    exact (Nat.two_pow_add_eq_or_of_lt (i := 63) h 1).symm
  rw [e1, u64_or_nat _ _ (by omega) (by decide), e2]
theorem key_any (x : Nat) (hx : x < 18446744073709551616) (w : World) : Calls Try.prog 45 #[.float .f64 x] w fun e w' => e = .returned (.int .u64 (keyB x : Int)) ∧ w' = w := by
  have hb := fbits_run x
  cases hn : nanB x with
  | true =>
    have hc : keyB x = 18446744073709551615 := by
      unfold nanB rungB at hn
      rw [decide_eq_true_eq] at hn
      unfold keyB
      rw [if_pos hn]
    rw [hc]
    have HN := Lib.hid hn
    clear hn hc
    go_enter Try.func45, Try.ntmps45
    go_wp2_with (go_at_call 80; refine (isnan_any _ _ HN.out _).mono ?_; rintro e w' ⟨rfl, rfl⟩)
    go_ret
    exact ⟨rfl, rfl⟩
  | false =>
    have hr : ¬ 9218868437227405312 < x % 9223372036854775808 := by
      unfold nanB rungB at hn
      rw [decide_eq_false_iff_not] at hn
      omega
    have HN := Lib.hid hn
    clear hn
    by_cases h : 9223372036854775808 ≤ x
    · have hc : keyB x = 18446744073709551615 - x := by unfold keyB; rw [if_neg hr, if_pos h]
      have h1 : (x : Int) / 9223372036854775808 = 1 := by omega
      have h2 := xor_all x hx
      rw [hc]
      have HX := Lib.hid hx
      clear hc hr h hx
      go_enter Try.func45, Try.ntmps45
      go_wp2_with (go_at_call 80; refine (isnan_any _ _ HN.out _).mono ?_; rintro e w' ⟨rfl, rfl⟩)
      go_ret
      exact ⟨rfl, rfl⟩
    · have hc : keyB x = 9223372036854775808 + x := by unfold keyB; rw [if_neg hr, if_neg h]
      have h1 : (x : Int) / 9223372036854775808 = 0 := by omega
      have h2 := or_top x (by omega)
      rw [hc]
      have HX := Lib.hid hx
      clear hc hr h hx
      go_enter Try.func45, Try.ntmps45
      go_wp2_with (go_at_call 80; refine (isnan_any _ _ HN.out _).mono ?_; rintro e w' ⟨rfl, rfl⟩)
      go_ret
      exact ⟨rfl, rfl⟩
theorem keyB_share {x : Nat} (h : x ≤ 4607182418800017408) : keyB x = 9223372036854775808 + x := by unfold keyB; rw [if_neg (by omega), if_neg (by omega)]
set_option maxRecDepth 100000 in
theorem rkey_any (x : Nat) (hx : x < 18446744073709551616) (w : World) : Calls Try.prog 46 #[.float .f64 x] w fun e w' => e = .returned (.int .u64 (keyB x : Int)) ∧ w' = w := by
  have hb := fbits_run x
  obtain ⟨m, hm⟩ : ∃ m, x % 9223372036854775808 = m := ⟨_, rfl⟩
  have hm' : (x : Int) % 9223372036854775808 = (m : Int) := by omega
  have hx' : (x : Int) < 18446744073709551616 := by omega
  have hmm : m < 9223372036854775808 := by omega
  obtain ⟨K, hK⟩ : ∃ K : Int, (keyB x : Int) = K := ⟨_, rfl⟩
  rw [hK]
  unfold keyB at hK
  rw [hm] at hK
  by_cases h : 9218868437227405312 < m
  · rw [if_pos h] at hK
    subst hK
    have g1 : decide ((9218868437227405312 : Int) < (m : Int)) = true := decide_eq_true (by omega)
    clear hm h hx hmm
    go_enter Try.func46, Try.ntmps46
    go_wp2
    go_ret
    exact ⟨rfl, rfl⟩
  · rw [if_neg h] at hK
    have g1 : decide ((9218868437227405312 : Int) < (m : Int)) = false := decide_eq_false (by omega)
    by_cases h2 : 9223372036854775808 ≤ x
    · rw [if_pos h2] at hK
      have g2 : ((x : Int) != (m : Int)) = true := by rw [bne_iff_ne]; omega
      have g3 : IntKind.u64.wrap (9223372036854775807 - (m : Int)) = K := by rw [IntKind.wrap_u64]; omega
      have g4 : (m : Int) ≤ 9223372036854775807 := by omega
      have HK : Hid (9223372036854775807 - (m : Int) = K) := Lib.hid (by omega)
      clear hm h hx hmm h2 hK
      go_enter Try.func46, Try.ntmps46
      go_wp2
      go_ret
      exact ⟨by first | rfl | (rw [← HK.out]; rfl), rfl⟩
    · rw [if_neg h2] at hK
      obtain rfl : x = m := by omega
      have g2 : ((x : Int) != (x : Int)) = false := by simp
      have g3 : IntKind.u64.wrap (9223372036854775808 + (x : Int)) = K := by rw [IntKind.wrap_u64]; omega
      have HK : Hid (9223372036854775808 + (x : Int) = K) := Lib.hid (by omega)
      have g4 : (x : Int) ≤ 9223372036854775807 := by omega
      clear hm h hx hmm h2 hK
      go_enter Try.func46, Try.ntmps46
      go_wp2
      go_ret
      exact ⟨by first | rfl | (rw [← HK.out]; rfl), rfl⟩
/-- The least share. -/
def leastF (l : List Nat) : Nat := l.foldl (fun a f => min a (cleanB f)) 4607182418800017408
theorem leastF_take (l : List Nat) (k : Nat) (h : k < l.length) : leastF (l.take (k + 1)) = min (leastF (l.take k)) (cleanB l[k]) := by
  rw [List.take_succ_eq_append_getElem h]
  unfold leastF
  rw [List.foldl_append]
  rfl
theorem leastF_le (l : List Nat) : leastF l ≤ 4607182418800017408 := by
  have : ∀ (l : List Nat) (a : Nat), a ≤ 4607182418800017408 → l.foldl (fun a f => min a (cleanB f)) a ≤ 4607182418800017408 := by
    intro l
    induction l with
    | nil => intro a h; exact h
    | cons f l ih => intro a h; exact ih _ (Nat.le_trans (Nat.min_le_left _ _) h)
  exact this l _ (Nat.le_refl _)
def LeastAt (l : List Nat) (x i : Value) : Prop := ∃ k : Nat, k ≤ l.length ∧ i = .int .i64 k ∧ x = .float .f64 (leastF (l.take k))
theorem key_to (x K : Nat) (hx : x < 18446744073709551616) (h : keyB x = K) (w : World) : Calls Try.prog 45 #[.float .f64 x] w fun e w' => e = .returned (.int .u64 (K : Int)) ∧ w' = w := by
  rw [← h]
  exact key_any x hx w
theorem least_any (l : List Nat) (A : Option Addr) (c : Nat) (hl : l.length ≤ 1000000) (hall : ∀ x ∈ l, x < 18446744073709551616) (w : World) (hr : Row w A (l.map (Value.float .f64))) :
    Calls Try.prog 47 #[.slice A l.length c] w fun e w' => e = .returned (.float .f64 (leastF l)) ∧ w' = w := by
  have HR := Lib.hid hr
  have HA := Lib.hid hall
  clear hr hall
  go_enter Try.func47, Try.ntmps47
  go_wp2
  go_loop [3, 9] (fun x i => LeastAt l x i) (fun _ i => l.length - (intOf i).toNat)
  case atStart => exact ⟨0, Nat.zero_le _, rfl, rfl⟩
  case round =>
    obtain ⟨k, hk, rfl, rfl⟩ := hrel
    by_cases h : k < l.length
    · obtain ⟨b, o, rfl, hb, hc⟩ := HR.out.at_ (k := k) (by simpa using h)
      simp only [List.getElem_map] at hc
      have hT := leastF_take l k h
      have h1 := leastF_le (l.take k)
      have h2 := cleanB_le l[k]
      have HC := Lib.hid (clean_any l[k] (HA.out _ (List.getElem_mem h)))
      have HK1 := Lib.hid (key_to _ _ (show leastF (l.take k) < 18446744073709551616 by omega) (keyB_share h1))
      have HK2 := Lib.hid (key_to _ _ (show cleanB l[k] < 18446744073709551616 by omega) (keyB_share h2))
      have HT := Lib.hid hT
      clear h1 h2 hT
      generalize leastF (l.take k) = x at *
      generalize cleanB l[k] = y at *
      generalize l[k] = z at *
      by_cases hxy : y < x
      · have g1 : decide (9223372036854775808 + y < 9223372036854775808 + x) = true := decide_eq_true (by omega)
        have HM : Hid (min x y = y) := Lib.hid (by omega)
        generalize 9223372036854775808 + y = ky at *
        generalize 9223372036854775808 + x = kx at *
        go_wp2_with (first | (go_at_call 30; refine (HC.out _).mono ?_; rintro e w' ⟨rfl, rfl⟩) | (go_at_call 45; (with_reducible refine (HK2.out _).mono ?_); rintro e w' ⟨rfl, rfl⟩) | (go_at_call 45; (with_reducible refine (HK1.out _).mono ?_); rintro e w' ⟨rfl, rfl⟩))
        case roundEnd => exact ⟨⟨k + 1, by omega, by simp, by rw [HT.out, HM.out]⟩, by simp only [intOf]; omega⟩
      · have g1 : decide (9223372036854775808 + y < 9223372036854775808 + x) = false := decide_eq_false (by omega)
        have HM : Hid (min x y = x) := Lib.hid (by omega)
        generalize 9223372036854775808 + y = ky at *
        generalize 9223372036854775808 + x = kx at *
        go_wp2_with (first | (go_at_call 30; refine (HC.out _).mono ?_; rintro e w' ⟨rfl, rfl⟩) | (go_at_call 45; (with_reducible refine (HK2.out _).mono ?_); rintro e w' ⟨rfl, rfl⟩) | (go_at_call 45; (with_reducible refine (HK1.out _).mono ?_); rintro e w' ⟨rfl, rfl⟩))
        case roundEnd => exact ⟨⟨k + 1, by omega, by simp, by rw [HT.out, HM.out]⟩, by simp only [intOf]; omega⟩
    · obtain rfl : k = l.length := by omega
      rw [List.take_length]
      go_wp2
      go_ret
      exact ⟨rfl, rfl⟩
theorem ord_lit (x y : Nat) (hx : nanB x = false) (hy : nanB y = false) : FloatKind.f64.format.order x y = some (compare (litI x) (litI y)) := order_lit x y hx hy
/-- How two floats and their keys lie. -/
theorem keys_lie (a b : Nat) (ha : a < 18446744073709551616) (hb : b < 18446744073709551616) :
    FloatKind.f64.format.order a b = none ∨ (FloatKind.f64.format.order a b = some .lt ∧ keyB a < keyB b) ∨ (FloatKind.f64.format.order a b = some .gt ∧ keyB b < keyB a) ∨ FloatKind.f64.format.order a b = some .eq := by
  cases h1 : nanB a with
  | true => exact Or.inl (ord_nan a b (Or.inl h1))
  | false =>
    cases h2 : nanB b with
    | true => exact Or.inl (ord_nan a b (Or.inr h2))
    | false =>
      right
      rw [ord_lit a b h1 h2]
      rcases Int.lt_trichotomy (litI a) (litI b) with h | h | h
      · left; exact ⟨by rw [Int.compare_eq_lt.2 h], keyB_lt h1 h2 ha hb h⟩
      · right; right; rw [Int.compare_eq_eq.2 h]
      · right; left; exact ⟨by rw [Int.compare_eq_gt.2 h], keyB_lt h2 h1 hb ha h⟩
theorem ord_share {x y : Nat} (hx : x ≤ 4607182418800017408) (hy : y ≤ 4607182418800017408) : (x < y ∧ FloatKind.f64.format.order x y = some .lt) ∨ (x = y ∧ FloatKind.f64.format.order x y = some .eq) ∨ (y < x ∧ FloatKind.f64.format.order x y = some .gt) := by
  rw [ord_pos (by omega) (by omega)]
  rcases Nat.lt_trichotomy x y with h | h | h
  · left; exact ⟨h, by rw [cmp_lt h]⟩
  · right; left; exact ⟨h, by rw [Nat.compare_eq_eq.2 h]⟩
  · right; right; exact ⟨h, by rw [cmp_gt h]⟩
theorem same_self (x : Nat) (w : World) : Calls Try.prog 32 #[.float .f64 x, .float .f64 x] w fun e w' => e = .returned (.bool true) ∧ w' = w := by
  refine (same_any x x w).mono fun e w' ⟨he, hw⟩ => ⟨?_, hw⟩
  rw [he]
  simp
set_option maxHeartbeats 1000000 in
theorem fracKeys_walk (a b : Nat) (l : List Nat) (A : Option Addr) (c : Nat) (ha : a < 18446744073709551616) (hb : b < 18446744073709551616) (hl : l.length ≤ maxLen) (hall : ∀ x ∈ l, x < 18446744073709551616) (w : World) (hr : Row w A (l.map (Value.float .f64))) :
    Gives Try.prog 9 #[.float .f64 a, .float .f64 b, .slice A l.length c] w (.bool true) := by
  have hl' : (l.length : Int) ≤ 9223372036854775807 := by unfold maxLen at hl; omega
  clear hl
  by_cases h1 : 100 < l.length
  · clear hall hr ha hb
    unfold Gives
    go_enter Try.func9, Try.ntmps9
    go_wp2_with (go_at_call 36; refine (live28_any _).mono ?_; rintro e w' ⟨rfl, x, rfl⟩)
    go_ret
    exact ⟨rfl, by (show Grew _ _; repeat (first | exact Grew.refl _ | refine Grew.alloc ?_ _ | refine Grew.drew ?_ | refine Grew.more ?_ _))⟩
  · have HK1 := Lib.hid (key_any a ha)
    have HK2 := Lib.hid (key_any b hb)
    have HRK := Lib.hid (rkey_any a ha)
    have HL := Lib.hid (fun w hr => least_any l A c (by omega) hall w hr)
    have HR := Lib.hid hr
    have HX := Lib.hid hall
    have hk := keys_lie a b ha hb
    clear ha hb hall hr
    generalize keyB a = ka at *
    generalize keyB b = kb at *
    unfold Gives
    rcases hk with ho | ⟨ho, hlt⟩ | ⟨ho, hlt⟩ | ho
    all_goals
      try have g1 : decide (kb ≤ ka) = false := decide_eq_false (by omega)
      try have g2 : decide (ka ≤ kb) = false := decide_eq_false (by omega)
      go_enter Try.func9, Try.ntmps9
      go_wp2_with (first | (go_at_call 45; (with_reducible refine (HK1.out _).mono ?_); rintro e w' ⟨rfl, rfl⟩) | (go_at_call 45; (with_reducible refine (HK2.out _).mono ?_); rintro e w' ⟨rfl, rfl⟩) | (go_at_call 46; refine (HRK.out _).mono ?_; rintro e w' ⟨rfl, rfl⟩))
      try clear g1
      try clear g2
      go_loop [9, 10] (fun x i => LeastAt l x i) (fun _ i => l.length - (intOf i).toNat)
      case atStart => exact ⟨0, Nat.zero_le _, rfl, rfl⟩
      case round =>
        obtain ⟨k, hk, rfl, rfl⟩ := hrel
        by_cases h : k < l.length
        · obtain ⟨bb, oo, rfl, hbb, hc⟩ := HR.out.at_ (k := k) (by simpa using h)
          simp only [List.getElem_map] at hc
          have HC := Lib.hid (rclean_any l[k] (HX.out _ (List.getElem_mem h)))
          have HT := Lib.hid (leastF_take l k h)
          have ho2 := ord_share (cleanB_le l[k]) (leastF_le (l.take k))
          generalize leastF (l.take k) = x at *
          generalize cleanB l[k] = y at *
          generalize l[k] = z at *
          rcases ho2 with ⟨h3, ho2⟩ | ⟨h3, ho2⟩ | ⟨h3, ho2⟩
          · have HM : Hid (min x y = y) := Lib.hid (by omega)
            clear h3
            go_wp2_with (go_at_call 33; refine (HC.out _).mono ?_; rintro e w' ⟨rfl, rfl⟩)
            case roundEnd => exact ⟨⟨k + 1, by omega, by simp, by rw [HT.out, HM.out]⟩, by simp only [intOf]; omega⟩
          · have HM : Hid (min x y = x) := Lib.hid (by omega)
            clear h3
            go_wp2_with (go_at_call 33; refine (HC.out _).mono ?_; rintro e w' ⟨rfl, rfl⟩)
            case roundEnd => exact ⟨⟨k + 1, by omega, by simp, by rw [HT.out, HM.out]⟩, by simp only [intOf]; omega⟩
          · have HM : Hid (min x y = x) := Lib.hid (by omega)
            clear h3
            go_wp2_with (go_at_call 33; refine (HC.out _).mono ?_; rintro e w' ⟨rfl, rfl⟩)
            case roundEnd => exact ⟨⟨k + 1, by omega, by simp, by rw [HT.out, HM.out]⟩, by simp only [intOf]; omega⟩
        · obtain rfl : k = l.length := by omega
          rw [List.take_length]
          go_wp2_with (first | (go_at_call 47; refine (HL.out _ HR.out).mono ?_; rintro e w' ⟨rfl, rfl⟩) | (go_at_call 32; refine (same_self _ _).mono ?_; rintro e w' ⟨rfl, rfl⟩) | (go_at_call 36; refine (live28_any _).mono ?_; rintro e w' ⟨rfl, x, rfl⟩))
          go_ret
          exact ⟨rfl, by (show Grew _ _; repeat (first | exact Grew.refl _ | refine Grew.alloc ?_ _ | refine Grew.drew ?_ | refine Grew.more ?_ _))⟩
end Go.Proofs.Ytlnpiemnkpogfaa
