/- Layer 28: the nearest share of a float, and how floats lie, by the program and by the document's own answer. No condition but that bits are 64. -/
import Derived.Test.YtlnpiemnkpogfaaPart
import Derived.Test.YtlnpiemnkpogfaaFloat2
import Derived.Laws.FloatArith
namespace Go.Proofs.Ytlnpiemnkpogfaa
open Go.RowKit
attribute [local go_sem] more_cell more_frozen more_more more_setCell more_of_drew more_of_drewN lt_more le_more past_cell past_cell2 past_frozen past_frozen2 past_setCell past_setCell2 mid_cell mid_frozen mid_setCell
attribute [local go_sem ↓] Go.wp_at_zero Go.wp_at_succ

theorem ord_self (x : Nat) (h : nanB x = false) : FloatKind.f64.format.order x x = some .eq := by
  show Ieee.double.order x x = _
  rw [order_lit x x h h, Int.compare_eq_eq.2 rfl]
theorem ord_nan (x y : Nat) (h : nanB x = true ∨ nanB y = true) : FloatKind.f64.format.order x y = none := order_nan x y h
theorem nan_not {x : Nat} (h : x ≤ 9218868437227405312) : nanB x = false := by
  unfold nanB rungB
  rw [decide_eq_false_iff_not]
  omega
theorem ord_pos {x y : Nat} (hx : x ≤ 9218868437227405312) (hy : y ≤ 9218868437227405312) : FloatKind.f64.format.order x y = some (compare x y) := by
  show Ieee.double.order x y = _
  rw [order_lit x y (nan_not hx) (nan_not hy), lit_pos x (by omega), lit_pos y (by omega)]
  refine congrArg some ?_
  rcases Nat.lt_trichotomy x y with h | h | h
  · rw [Nat.compare_eq_lt.2 h, Int.compare_eq_lt.2 (by have := rungv_lt h; omega)]
  · subst h
    rw [Nat.compare_eq_eq.2 rfl, Int.compare_eq_eq.2 rfl]
  · rw [Nat.compare_eq_gt.2 h, Int.compare_eq_gt.2 (by have := rungv_lt h; omega)]
theorem ord_neg {x y : Nat} (hx : 9223372036854775808 < x) (hx' : x ≤ 18442240474082181120) (hy : y ≤ 9218868437227405312) : FloatKind.f64.format.order x y = some .lt := by
  show Ieee.double.order x y = _
  rw [order_lit x y (by unfold nanB rungB; rw [decide_eq_false_iff_not]; omega) (nan_not hy), lit_pos y (by omega), lit_neg x (by omega) (by omega)]
  refine congrArg some ?_
  refine Int.compare_eq_lt.2 ?_
  have := @rungv_lt 0 (x - 9223372036854775808) (by omega)
  omega
theorem ord_mzero {y : Nat} (hy : y ≤ 9218868437227405312) : FloatKind.f64.format.order 9223372036854775808 y = some (compare 0 y) := by
  show Ieee.double.order 9223372036854775808 y = _
  have h0 : rungv 0 = 0 := rfl
  rw [order_lit _ y (by decide) (nan_not hy), lit_pos y (by omega), lit_neg 9223372036854775808 (by omega) (by omega), Nat.sub_self, h0]
  refine congrArg some ?_
  rcases Nat.eq_zero_or_pos y with h | h
  · subst h; rfl
  · rw [Nat.compare_eq_lt.2 h]
    refine Int.compare_eq_lt.2 ?_
    have := @rungv_lt 0 y h
    omega
def oneB : Nat := 4607182418800017408
theorem cmp_lt {x y : Nat} (h : x < y) : compare x y = .lt := Nat.compare_eq_lt.2 h
theorem cmp_gt {x y : Nat} (h : y < x) : compare x y = .gt := Nat.compare_eq_gt.2 h
theorem isnan_any (x : Nat) (b : Bool) (h : nanB x = b) (w : World) : Calls Try.prog 80 #[.float .f64 x] w fun e w' => e = .returned (.bool b) ∧ w' = w := by
  cases b with
  | true =>
    have ho := ord_nan x x (Or.inl h)
    go_enter Try.func80, Try.ntmps80
    go_wp2
    go_ret
    exact ⟨rfl, rfl⟩
  | false =>
    have ho := ord_self x h
    go_enter Try.func80, Try.ntmps80
    go_wp2
    go_ret
    exact ⟨rfl, rfl⟩
theorem ret_f64 {a b : Nat} (h : a = b) : Ending.returned (.float .f64 a) = .returned (.float .f64 b) := by rw [h]
theorem clean_any (x : Nat) (hx : x < 18446744073709551616) (w : World) : Calls Try.prog 30 #[.float .f64 x] w fun e w' => e = .returned (.float .f64 (cleanB x)) ∧ w' = w := by
  cases hn : nanB x with
  | true =>
    have hc : cleanB x = 4607182418800017408 := by
      unfold nanB rungB at hn
      rw [decide_eq_true_eq] at hn
      unfold cleanB
      rw [if_pos hn]
    rw [hc]
    have HN := Lib.hid hn
    clear hn hc
    go_enter Try.func30, Try.ntmps30
    go_wp2_with (go_at_call 80; refine (isnan_any _ _ HN.out _).mono ?_; rintro e w' ⟨rfl, rfl⟩)
    go_ret
    exact ⟨rfl, rfl⟩
  | false =>
    have hr : x % 9223372036854775808 ≤ 9218868437227405312 := by
      unfold nanB rungB at hn
      rw [decide_eq_false_iff_not] at hn
      omega
    have HN := Lib.hid hn
    clear hn
    rcases (by omega : 4607182418800017408 < x ∧ x < 9223372036854775808 ∨ x = 0 ∨ 9223372036854775808 < x ∨ x = 9223372036854775808 ∨ 0 < x ∧ x ≤ 4607182418800017408) with ⟨h1, h2⟩ | rfl | h1 | rfl | ⟨h1, h2⟩
    · have hc : cleanB x = 4607182418800017408 := by unfold cleanB; rw [if_neg (by omega), if_neg (by omega), if_pos (by omega)]
      rw [hc]
      have ho := ord_pos (x := x) (y := 4607182418800017408) (by omega) (by omega)
      rw [cmp_gt (by omega)] at ho
      clear hc h1 h2 hr
      go_enter Try.func30, Try.ntmps30
      go_wp2_with (go_at_call 80; refine (isnan_any _ _ HN.out _).mono ?_; rintro e w' ⟨rfl, rfl⟩)
      go_ret
      exact ⟨rfl, rfl⟩
    · have ho : FloatKind.f64.format.order 0 4607182418800017408 = some .lt := by rw [ord_pos (by omega) (by omega), cmp_lt (by omega)]
      have hz : FloatKind.f64.format.order 0 0 = some .eq := ord_self 0 (by decide)
      go_enter Try.func30, Try.ntmps30
      go_wp2_with (go_at_call 80; refine (isnan_any _ _ HN.out _).mono ?_; rintro e w' ⟨rfl, rfl⟩)
      go_ret
      exact ⟨rfl, rfl⟩
    · have hc : cleanB x = 0 := by unfold cleanB; rw [if_neg (by omega), if_pos (by omega)]
      rw [hc]
      have ho := ord_neg (x := x) (y := 4607182418800017408) (by omega) (by omega) (by omega)
      have hz := ord_neg (x := x) (y := 0) (by omega) (by omega) (by omega)
      clear hc h1 hr
      go_enter Try.func30, Try.ntmps30
      go_wp2_with (go_at_call 80; refine (isnan_any _ _ HN.out _).mono ?_; rintro e w' ⟨rfl, rfl⟩)
      go_ret
      exact ⟨rfl, rfl⟩
    · have ho : FloatKind.f64.format.order 9223372036854775808 4607182418800017408 = some .lt := by rw [ord_mzero (by omega), cmp_lt (by omega)]
      have hz : FloatKind.f64.format.order 9223372036854775808 0 = some .eq := by rw [ord_mzero (by omega)]; rfl
      go_enter Try.func30, Try.ntmps30
      go_wp2_with (go_at_call 80; refine (isnan_any _ _ HN.out _).mono ?_; rintro e w' ⟨rfl, rfl⟩)
      go_ret
      exact ⟨rfl, rfl⟩
    · have hc : cleanB x = x := cleanB_self h2
      rw [hc]
      have hz := ord_pos (x := x) (y := 0) (by omega) (by omega)
      rw [cmp_gt (by omega)] at hz
      have ho : FloatKind.f64.format.order x 4607182418800017408 = some .lt ∨ FloatKind.f64.format.order x 4607182418800017408 = some .eq := by
        rw [ord_pos (by omega) (by omega)]
        rcases Nat.lt_or_eq_of_le h2 with h | h
        · left; rw [cmp_lt h]
        · right; rw [h]; rfl
      clear hc h1 h2 hr
      rcases ho with ho | ho
      all_goals
        go_enter Try.func30, Try.ntmps30
        go_wp2_with (go_at_call 80; refine (isnan_any _ _ HN.out _).mono ?_; rintro e w' ⟨rfl, rfl⟩)
        go_ret
        exact ⟨rfl, rfl⟩
end Go.Proofs.Ytlnpiemnkpogfaa
