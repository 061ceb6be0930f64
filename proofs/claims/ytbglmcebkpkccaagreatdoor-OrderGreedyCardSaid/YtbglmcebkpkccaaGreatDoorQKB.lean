/- Layer 28: the rest of a share, one of two, all of them, by the program and by the document's own answer. No condition but that bits are 64. -/
import Derived.WalkKit
import Derived.Test.YtbglmcebkpkccaaGreatDoorSat2
import Derived.IntWalk
import Derived.Laws.BitsAllLaws
import Derived.Test.YtbglmcebkpkccaaGreatDoorQKA
import Derived.Laws.FloatArith

/- Division of 128 bits by 64, digit by digit of 32 bits; parts of counts. Plain arithmetic. -/
namespace Go.Proofs.YtbglmcebkpkccaaGreatDoor

/-- One digit's guess: q is no less than the digit of (u*2^32 + d) / (a*2^32 + b), r what is left of u. -/
structure Digit (u d a b q r : Int) : Prop where
  q0 : 0 ≤ q
  rr : r = u - q * a
  r0 : 0 ≤ r
  up : u * 4294967296 + d < (q + 1) * (a * 4294967296 + b)

end Go.Proofs.YtbglmcebkpkccaaGreatDoor

/- Layer 26: quotients of 128 bits, and parts of counts. -/
namespace Go.Proofs.YtbglmcebkpkccaaGreatDoor
open Go.RowKit
attribute [local go_sem] more_cell more_frozen more_more more_setCell more_of_drew more_of_drewN lt_more le_more past_cell past_cell2 past_frozen past_frozen2 past_setCell past_setCell2 mid_cell mid_frozen mid_setCell
attribute [local go_sem ↓] Go.wp_at_zero Go.wp_at_succ

end Go.Proofs.YtbglmcebkpkccaaGreatDoor

/- How many keys may pass a filter, as plain arithmetic; no less of more keys, no more of more words. -/
namespace Go.Proofs.YtbglmcebkpkccaaGreatDoor

end Go.Proofs.YtbglmcebkpkccaaGreatDoor

/- Layer 26: quotients of 128 bits whatever they are, parts of counts, quotients and digits, by the program and by the document's own answer. -/
namespace Go.Proofs.YtbglmcebkpkccaaGreatDoor
open Go.RowKit
attribute [local go_sem] more_cell more_frozen more_more more_setCell more_of_drew more_of_drewN lt_more le_more past_cell past_cell2 past_frozen past_frozen2 past_setCell past_setCell2 mid_cell mid_frozen mid_setCell
attribute [local go_sem ↓] Go.wp_at_zero Go.wp_at_succ

end Go.Proofs.YtbglmcebkpkccaaGreatDoor

/- Layer 26: parts of counts, quotients and digits, by the program and by the document's own answer. -/
namespace Go.Proofs.YtbglmcebkpkccaaGreatDoor
open Go.RowKit
attribute [local go_sem] more_cell more_frozen more_more more_setCell more_of_drew more_of_drewN lt_more le_more past_cell past_cell2 past_frozen past_frozen2 past_setCell past_setCell2 mid_cell mid_frozen mid_setCell
attribute [local go_sem ↓] Go.wp_at_zero Go.wp_at_succ

end Go.Proofs.YtbglmcebkpkccaaGreatDoor

/- Layer 29: how many keys may pass a filter, how many rows it drops, by the program and by the document's own answer. No condition. -/
namespace Go.Proofs.YtbglmcebkpkccaaGreatDoor
open Go.RowKit
attribute [local go_sem] more_cell more_frozen more_more more_setCell more_of_drew more_of_drewN lt_more le_more past_cell past_cell2 past_frozen past_frozen2 past_setCell past_setCell2 mid_cell mid_frozen mid_setCell
attribute [local go_sem ↓] Go.wp_at_zero Go.wp_at_succ

end Go.Proofs.YtbglmcebkpkccaaGreatDoor

/- Layer 28: the nearest share of a float, and how floats lie, by the program and by the document's own answer. No condition but that bits are 64. -/
namespace Go.Proofs.YtbglmcebkpkccaaGreatDoor
open Go.RowKit
attribute [local go_sem] more_cell more_frozen more_more more_setCell more_of_drew more_of_drewN lt_more le_more past_cell past_cell2 past_frozen past_frozen2 past_setCell past_setCell2 mid_cell mid_frozen mid_setCell
attribute [local go_sem ↓] Go.wp_at_zero Go.wp_at_succ

theorem ord_self (x : Nat) (h : nanB x = false) : FloatKind.f64.format.order x x = some .eq := by
  show Ieee.double.order x x = _
  rw [order_lit x x h h, Int.compare_eq_eq.2 rfl]
theorem ord_nan (x y : Nat) (h : nanB x = true ∨ nanB y = true) : FloatKind.f64.format.order x y = none := order_nan x y h
theorem nan_not {x : Nat} (h : x ≤ 9218868437227405312) : nanB x = false := by
  unfold nanB rungB
  rw [decide_eq_false_iff_not]
  omega
theorem ord_pos {x y : Nat} (hx : x ≤ 9218868437227405312) (hy : y ≤ 9218868437227405312) : FloatKind.f64.format.order x y = some (compare x y) := by
  show Ieee.double.order x y = _
  rw [order_lit x y (nan_not hx) (nan_not hy), lit_pos x (by omega), lit_pos y (by omega)]
  refine congrArg some ?_
  rcases Nat.lt_trichotomy x y with h | h | h
  · rw [Nat.compare_eq_lt.2 h, Int.compare_eq_lt.2 (by have := rungv_lt h; omega)]
  · subst h
    rw [Nat.compare_eq_eq.2 rfl, Int.compare_eq_eq.2 rfl]
  · rw [Nat.compare_eq_gt.2 h, Int.compare_eq_gt.2 (by have := rungv_lt h; omega)]
theorem ord_neg {x y : Nat} (hx : 9223372036854775808 < x) (hx' : x ≤ 18442240474082181120) (hy : y ≤ 9218868437227405312) : FloatKind.f64.format.order x y = some .lt := by
  show Ieee.double.order x y = _
  rw [order_lit x y (by unfold nanB rungB; rw [decide_eq_false_iff_not]; omega) (nan_not hy), lit_pos y (by omega), lit_neg x (by omega) (by omega)]
  refine congrArg some ?_
  refine Int.compare_eq_lt.2 ?_
  have := @rungv_lt 0 (x - 9223372036854775808) (by omega)
  omega
theorem ord_mzero {y : Nat} (hy : y ≤ 9218868437227405312) : FloatKind.f64.format.order 9223372036854775808 y = some (compare 0 y) := by
  show Ieee.double.order 9223372036854775808 y = _
  have h0 : rungv 0 = 0 := rfl
  rw [order_lit _ y (by decide) (nan_not hy), lit_pos y (by omega), lit_neg 9223372036854775808 (by omega) (by omega), Nat.sub_self, h0]
  refine congrArg some ?_
  rcases Nat.eq_zero_or_pos y with h | h
  · subst h; rfl
  · rw [Nat.compare_eq_lt.2 h]
    refine Int.compare_eq_lt.2 ?_
    have := @rungv_lt 0 y h
    omega
theorem cmp_lt {x y : Nat} (h : x < y) : compare x y = .lt := Nat.compare_eq_lt.2 h
theorem cmp_gt {x y : Nat} (h : y < x) : compare x y = .gt := Nat.compare_eq_gt.2 h
theorem isnan_any (x : Nat) (b : Bool) (h : nanB x = b) (w : World) : Calls Tryz.prog 126 #[.float .f64 x] w fun e w' => e = .returned (.bool b) ∧ w' = w := by
  cases b with
  | true =>
    have ho := ord_nan x x (Or.inl h)
    go_enter Tryz.func126, Tryz.ntmps126
    go_wp2
    go_ret
    exact ⟨rfl, rfl⟩
  | false =>
    have ho := ord_self x h
    go_enter Tryz.func126, Tryz.ntmps126
    go_wp2
    go_ret
    exact ⟨rfl, rfl⟩
theorem clean_any (x : Nat) (hx : x < 18446744073709551616) (w : World) : Calls Tryz.prog 93 #[.float .f64 x] w fun e w' => e = .returned (.float .f64 (cleanB x)) ∧ w' = w := by
  cases hn : nanB x with
  | true =>
    have hc : cleanB x = 4607182418800017408 := by
      unfold nanB rungB at hn
      rw [decide_eq_true_eq] at hn
      unfold cleanB
      rw [if_pos hn]
    rw [hc]
    have HN := Lib.hid hn
    clear hn hc
    go_enter Tryz.func93, Tryz.ntmps93
    go_wp2_with (go_at_call 126; refine (isnan_any _ _ HN.out _).mono ?_; rintro e w' ⟨rfl, rfl⟩)
    go_ret
    exact ⟨rfl, rfl⟩
  | false =>
    have hr : x % 9223372036854775808 ≤ 9218868437227405312 := by
      unfold nanB rungB at hn
      rw [decide_eq_false_iff_not] at hn
      omega
    have HN := Lib.hid hn
    clear hn
    rcases (by omega : 4607182418800017408 < x ∧ x < 9223372036854775808 ∨ x = 0 ∨ 9223372036854775808 < x ∨ x = 9223372036854775808 ∨ 0 < x ∧ x ≤ 4607182418800017408) with ⟨h1, h2⟩ | rfl | h1 | rfl | ⟨h1, h2⟩
    · have hc : cleanB x = 4607182418800017408 := by unfold cleanB; rw [if_neg (by omega), if_neg (by omega), if_pos (by omega)]
      rw [hc]
      have ho := ord_pos (x := x) (y := 4607182418800017408) (by omega) (by omega)
      rw [cmp_gt (by omega)] at ho
      clear hc h1 h2 hr
      go_enter Tryz.func93, Tryz.ntmps93
      go_wp2_with (go_at_call 126; refine (isnan_any _ _ HN.out _).mono ?_; rintro e w' ⟨rfl, rfl⟩)
      go_ret
      exact ⟨rfl, rfl⟩
    · have ho : FloatKind.f64.format.order 0 4607182418800017408 = some .lt := by rw [ord_pos (by omega) (by omega), cmp_lt (by omega)]
      have hz : FloatKind.f64.format.order 0 0 = some .eq := ord_self 0 (by decide)
      go_enter Tryz.func93, Tryz.ntmps93
      go_wp2_with (go_at_call 126; refine (isnan_any _ _ HN.out _).mono ?_; rintro e w' ⟨rfl, rfl⟩)
      go_ret
      exact ⟨rfl, rfl⟩
    · have hc : cleanB x = 0 := by unfold cleanB; rw [if_neg (by omega), if_pos (by omega)]
      rw [hc]
      have ho := ord_neg (x := x) (y := 4607182418800017408) (by omega) (by omega) (by omega)
      have hz := ord_neg (x := x) (y := 0) (by omega) (by omega) (by omega)
      clear hc h1 hr
      go_enter Tryz.func93, Tryz.ntmps93
      go_wp2_with (go_at_call 126; refine (isnan_any _ _ HN.out _).mono ?_; rintro e w' ⟨rfl, rfl⟩)
      go_ret
      exact ⟨rfl, rfl⟩
    · have ho : FloatKind.f64.format.order 9223372036854775808 4607182418800017408 = some .lt := by rw [ord_mzero (by omega), cmp_lt (by omega)]
      have hz : FloatKind.f64.format.order 9223372036854775808 0 = some .eq := by rw [ord_mzero (by omega)]; rfl
      go_enter Tryz.func93, Tryz.ntmps93
      go_wp2_with (go_at_call 126; refine (isnan_any _ _ HN.out _).mono ?_; rintro e w' ⟨rfl, rfl⟩)
      go_ret
      exact ⟨rfl, rfl⟩
    · have hc : cleanB x = x := cleanB_self h2
      rw [hc]
      have hz := ord_pos (x := x) (y := 0) (by omega) (by omega)
      rw [cmp_gt (by omega)] at hz
      have ho : FloatKind.f64.format.order x 4607182418800017408 = some .lt ∨ FloatKind.f64.format.order x 4607182418800017408 = some .eq := by
        rw [ord_pos (by omega) (by omega)]
        rcases Nat.lt_or_eq_of_le h2 with h | h
        · left; rw [cmp_lt h]
        · right; rw [h]; rfl
      clear hc h1 h2 hr
      rcases ho with ho | ho
      all_goals
        go_enter Tryz.func93, Tryz.ntmps93
        go_wp2_with (go_at_call 126; refine (isnan_any _ _ HN.out _).mono ?_; rintro e w' ⟨rfl, rfl⟩)
        go_ret
        exact ⟨rfl, rfl⟩
end Go.Proofs.YtbglmcebkpkccaaGreatDoor

/- Layer 28: the nearest share by the document's own answer; quotients of integers. No condition but that bits are 64. -/
namespace Go.Proofs.YtbglmcebkpkccaaGreatDoor
open Go.RowKit
attribute [local go_sem] more_cell more_frozen more_more more_setCell more_of_drew more_of_drewN lt_more le_more past_cell past_cell2 past_frozen past_frozen2 past_setCell past_setCell2 mid_cell mid_frozen mid_setCell
attribute [local go_sem ↓] Go.wp_at_zero Go.wp_at_succ

theorem fbits_run (x : Nat) (W : World) : (callFunc 45 #[.float .f64 x]).run Tryz.prog W = .ok (.value (.int .u64 x)) W := by
  rw [run_callFunc_extern Tryz.func45 (by kernel_rfl) (by kernel_rfl) (by kernel_rfl) (e := Extern.MathFloatBits.float64bits) (by kernel_rfl)]
  rfl
set_option maxRecDepth 100000 in
theorem rclean_any (x : Nat) (hx : x < 18446744073709551616) (w : World) : Calls Tryz.prog 86 #[.float .f64 x] w fun e w' => e = .returned (.float .f64 (cleanB x)) ∧ w' = w := by
  have hb := fbits_run x
  obtain ⟨m, hm⟩ : ∃ m, x % 9223372036854775808 = m := ⟨_, rfl⟩
  have hm' : (x : Int) % 9223372036854775808 = (m : Int) := by omega
  have hx' : (x : Int) < 18446744073709551616 := by omega
  rcases (by omega : 9218868437227405312 < m ∨ (m ≤ 9218868437227405312 ∧ x ≠ m) ∨ (m = 0 ∧ x = m) ∨ (0 < m ∧ m < 4607182418800017408 ∧ x = m) ∨ (4607182418800017408 ≤ m ∧ m ≤ 9218868437227405312 ∧ x = m)) with h | ⟨h, h'⟩ | ⟨h, h'⟩ | ⟨h, h1, h'⟩ | ⟨h, h1, h'⟩
  · have hc : cleanB x = 4607182418800017408 := by unfold cleanB; rw [hm, if_pos h]
    rw [hc]
    have g1 : (9218868437227405312 : Int) < (m : Int) := by omega
    clear hc hm
    go_enter Tryz.func86, Tryz.ntmps86
    go_wp2
    go_ret
    exact ⟨rfl, rfl⟩
  · have hc : cleanB x = 0 := by unfold cleanB; rw [hm, if_neg (by omega), if_pos (by omega)]
    rw [hc]
    have g1 : (m : Int) ≤ 9218868437227405312 := by omega
    have g2 : ((x : Int) != (m : Int)) = true := by rw [bne_iff_ne]; omega
    have g3 : decide ((9218868437227405312 : Int) < (m : Int)) = false := decide_eq_false (by omega)
    clear hc hm h h' g1 hx
    go_enter Tryz.func86, Tryz.ntmps86
    go_wp2
    go_ret
    exact ⟨rfl, rfl⟩
  · subst h
    subst h'
    have hc : cleanB 0 = 0 := rfl
    rw [hc]
    clear hc hm hm'
    go_enter Tryz.func86, Tryz.ntmps86
    go_wp2
    go_ret
    exact ⟨rfl, rfl⟩
  · subst h'
    have hc : cleanB x = x := cleanB_self (by omega)
    rw [hc]
    have g1 : decide ((4607182418800017408 : Int) ≤ (x : Int)) = false := decide_eq_false (by omega)
    have g2 : ((x : Int) != (x : Int)) = false := by simp
    have g3 : ((x : Int) == 0) = false := by rw [beq_eq_false_iff_ne]; omega
    have g5 : decide ((9218868437227405312 : Int) < (x : Int)) = false := decide_eq_false (by omega)
    clear hc hm h h1 hx
    go_enter Tryz.func86, Tryz.ntmps86
    go_wp2
    go_ret
    exact ⟨rfl, rfl⟩
  · subst h'
    have hc : cleanB x = 4607182418800017408 := by unfold cleanB; rw [hm, if_neg (by omega), if_neg (by omega), if_pos (by omega)]
    rw [hc]
    have g1 : (4607182418800017408 : Int) ≤ (x : Int) := by omega
    have g2 : ((x : Int) != (x : Int)) = false := by simp
    have g3 : ((x : Int) == 0) = false := by rw [beq_eq_false_iff_ne]; omega
    have g5 : decide ((9218868437227405312 : Int) < (x : Int)) = false := decide_eq_false (by omega)
    clear hc hm h h1 hx
    go_enter Tryz.func86, Tryz.ntmps86
    go_wp2
    go_ret
    exact ⟨rfl, rfl⟩
theorem float_int (n : Int) : floatOfInt .f64 n = intB n := nearest_word _ _ _
def isI64 (n : Int) : Prop := -9223372036854775808 ≤ n ∧ n ≤ 9223372036854775807
theorem quo_run (x y r : Nat) (h : Ieee.double.div x y = some r) (W : World) : (binOp .quo 43 (.float .f64 x) (.float .f64 y)).run Tryz.prog W = .ok (.float .f64 r) W :=
  run_float_arith W .quo _ .f64 x y r h
/-- A quotient that is no number: which one, is left open. -/
def anyNan (W : World) : Nat := (Question.nanBits .f64 (intB 0) (intB 0)).cut (W.tape W.drawn (Question.nanBits .f64 (intB 0) (intB 0)))
theorem anyNan_nan (W : World) : anyNan W < 18446744073709551616 ∧ cleanB (anyNan W) = 4607182418800017408 := by
  unfold anyNan
  simp only [Question.cut]
  generalize W.tape W.drawn (Question.nanBits .f64 (intB 0) (intB 0)) = t
  have hu : t % 2 = 0 ∨ t % 2 = 1 := by omega
  have hv : t / 2 % (2 ^ 52 - 1) < 4503599627370495 := Nat.mod_lt _ (by decide)
  generalize t % 2 = u at *
  generalize t / 2 % (2 ^ 52 - 1) = v at *
  constructor
  · rcases hu with rfl | rfl <;> omega
  · unfold cleanB
    rw [if_pos (by rcases hu with rfl | rfl <;> omega)]
theorem quo_nan (W : World) : (binOp .quo 43 (.float .f64 (intB 0)) (.float .f64 (intB 0))).run Tryz.prog W = .ok (.float .f64 (anyNan W)) W.drew := by
  have h : FloatKind.f64.format.div (intB 0) (intB 0) = none := div_nan
  simp [binOp, Op.floatArith, h, anyNan, Question.forced]
theorem clean_to (x y : Nat) (hx : x < 18446744073709551616) (h : cleanB x = y) (w : World) : Calls Tryz.prog 93 #[.float .f64 x] w fun e w' => e = .returned (.float .f64 y) ∧ w' = w := by
  rw [← h]
  exact clean_any x hx w
theorem rclean_to (x y : Nat) (hx : x < 18446744073709551616) (h : cleanB x = y) (w : World) : Calls Tryz.prog 86 #[.float .f64 x] w fun e w' => e = .returned (.float .f64 y) ∧ w' = w := by
  rw [← h]
  exact rclean_any x hx w
theorem fof_any (a b : Int) (ha : isI64 a) (hb : isI64 b) (w : World) : Gives Tryz.prog 111 #[.int .i64 a, .int .i64 b] w (.float .f64 (ofB a b)) := by
  unfold isI64 at ha hb
  have fa := float_int a
  have fb := float_int b
  by_cases h : b = 0
  · subst h
    by_cases h0 : a = 0
    · subst h0
      have hr : ofB 0 0 = 4607182418800017408 := rfl
      rw [hr]
      have hq := quo_nan
      unfold Gives
      clear hr
      go_enter Tryz.func111, Tryz.ntmps111
      go_wp2_with (go_at_call 93; refine (clean_to _ _ (anyNan_nan _).1 (anyNan_nan _).2 _).mono ?_; rintro e w' ⟨rfl, rfl⟩)
      go_ret
      exact ⟨rfl, by (show Grew _ _; repeat (first | exact Grew.refl _ | refine Grew.alloc ?_ _ | refine Grew.drew ?_ | refine Grew.more ?_ _))⟩
    · have hd := div_inf a (by omega) h0
      obtain ⟨r, hrr⟩ : ∃ r, Ieee.double.word (decide (a < 0)) 9218868437227405312 = r := ⟨_, rfl⟩
      have hw : r < 18446744073709551616 := by rw [← hrr, word_val]; split <;> omega
      have hc : cleanB r = ofB a 0 := by
        rw [← hrr, clean_word _ _ (by omega)]
        unfold ofB
        rw [if_pos rfl]
        by_cases hn : a < 0
        · rw [decide_eq_true hn, if_pos hn]; rfl
        · rw [decide_eq_false hn, if_neg hn]; rfl
      rw [hrr] at hd
      have HC := Lib.hid hc
      have hq := quo_run _ _ _ hd
      clear hd hc hrr
      generalize ofB a 0 = R at *
      generalize intB a = x at *
      generalize intB 0 = y at *
      unfold Gives
      go_enter Tryz.func111, Tryz.ntmps111
      go_wp2_with (go_at_call 93; refine (clean_to _ _ hw HC.out _).mono ?_; rintro e w' ⟨rfl, rfl⟩)
      go_ret
      exact ⟨rfl, by (show Grew _ _; repeat (first | exact Grew.refl _ | refine Grew.alloc ?_ _ | refine Grew.drew ?_ | refine Grew.more ?_ _))⟩
  · obtain ⟨r, h1, _, h3⟩ := div_some a b (by omega) (by omega) h
    obtain ⟨q, hq0⟩ : ∃ q, Ieee.double.word (decide (a < 0) ^^ decide (b < 0)) r = q := ⟨_, rfl⟩
    have hw : q < 18446744073709551616 := by rw [← hq0, word_val]; split <;> omega
    rw [hq0] at h3
    have hc : cleanB q = ofB a b := by
      unfold ofB
      rw [if_neg h, h3]
      rfl
    have HC := Lib.hid hc
    have hq := quo_run _ _ _ h3
    clear h3 hc hq0
    generalize ofB a b = R at *
    generalize intB a = x at *
    generalize intB b = y at *
    unfold Gives
    go_enter Tryz.func111, Tryz.ntmps111
    go_wp2_with (go_at_call 93; refine (clean_to _ _ hw HC.out _).mono ?_; rintro e w' ⟨rfl, rfl⟩)
    go_ret
    exact ⟨rfl, by (show Grew _ _; repeat (first | exact Grew.refl _ | refine Grew.alloc ?_ _ | refine Grew.drew ?_ | refine Grew.more ?_ _))⟩
theorem rof_any (a b : Int) (ha : isI64 a) (hb : isI64 b) (w : World) : Gives Tryz.prog 81 #[.int .i64 a, .int .i64 b] w (.float .f64 (ofB a b)) := by
  unfold isI64 at ha hb
  have fa := float_int a
  have fb := float_int b
  by_cases h : b = 0
  · subst h
    by_cases h0 : a < 0
    · have hr : ofB a 0 = 0 := by unfold ofB; rw [if_pos rfl, if_pos h0]
      rw [hr]
      clear hr
      unfold Gives
      go_enter Tryz.func81, Tryz.ntmps81
      go_wp2
      go_ret
      exact ⟨rfl, by (show Grew _ _; repeat (first | exact Grew.refl _ | refine Grew.alloc ?_ _ | refine Grew.drew ?_ | refine Grew.more ?_ _))⟩
    · have hr : ofB a 0 = 4607182418800017408 := by unfold ofB; rw [if_pos rfl, if_neg h0]
      rw [hr]
      clear hr
      unfold Gives
      go_enter Tryz.func81, Tryz.ntmps81
      go_wp2
      go_ret
      exact ⟨rfl, by (show Grew _ _; repeat (first | exact Grew.refl _ | refine Grew.alloc ?_ _ | refine Grew.drew ?_ | refine Grew.more ?_ _))⟩
  · have hbb : (b == 0) = false := by rw [beq_eq_false_iff_ne]; exact h
    by_cases h0 : a = 0 ∨ (a < 0 ∧ 0 < b) ∨ (0 < a ∧ b < 0)
    · have hr := ofB_zero (by omega) (by omega) h h0
      rw [hr]
      clear hr
      unfold Gives
      rcases h0 with rfl | ⟨h1, h2⟩ | ⟨h1, h2⟩
      · go_enter Tryz.func81, Tryz.ntmps81
        go_wp2
        go_ret
        exact ⟨rfl, by (show Grew _ _; repeat (first | exact Grew.refl _ | refine Grew.alloc ?_ _ | refine Grew.drew ?_ | refine Grew.more ?_ _))⟩
      · have haa : (a == 0) = false := by rw [beq_eq_false_iff_ne]; omega
        go_enter Tryz.func81, Tryz.ntmps81
        go_wp2
        go_ret
        exact ⟨rfl, by (show Grew _ _; repeat (first | exact Grew.refl _ | refine Grew.alloc ?_ _ | refine Grew.drew ?_ | refine Grew.more ?_ _))⟩
      · have haa : (a == 0) = false := by rw [beq_eq_false_iff_ne]; omega
        go_enter Tryz.func81, Tryz.ntmps81
        go_wp2
        go_ret
        exact ⟨rfl, by (show Grew _ _; repeat (first | exact Grew.refl _ | refine Grew.alloc ?_ _ | refine Grew.drew ?_ | refine Grew.more ?_ _))⟩
    · obtain ⟨r, h1, _, h3⟩ := div_some a b (by omega) (by omega) h
      obtain ⟨q, hq0⟩ : ∃ q, Ieee.double.word (decide (a < 0) ^^ decide (b < 0)) r = q := ⟨_, rfl⟩
      have hw : q < 18446744073709551616 := by rw [← hq0, word_val]; split <;> omega
      rw [hq0] at h3
      have hc : cleanB q = ofB a b := by
        unfold ofB
        rw [if_neg h, h3]
        rfl
      have HC := Lib.hid hc
      have hq := quo_run _ _ _ h3
      have haa : (a == 0) = false := by rw [beq_eq_false_iff_ne]; omega
      clear h3 hc hq0
      generalize ofB a b = R at *
      generalize intB a = x at *
      generalize intB b = y at *
      unfold Gives
      rcases (by omega : (0 < a ∧ 0 < b) ∨ (a < 0 ∧ b < 0)) with ⟨k1, k2⟩ | ⟨k1, k2⟩
      all_goals
        clear h0
        go_enter Tryz.func81, Tryz.ntmps81
        go_wp2_with (go_at_call 86; refine (rclean_to _ _ hw HC.out _).mono ?_; rintro e w' ⟨rfl, rfl⟩)
        go_ret
        exact ⟨rfl, by (show Grew _ _; repeat (first | exact Grew.refl _ | refine Grew.alloc ?_ _ | refine Grew.drew ?_ | refine Grew.more ?_ _))⟩
end Go.Proofs.YtbglmcebkpkccaaGreatDoor

/- Layer 28: parts of counts by shares, by the program and by the document's own answer; its example. No condition but that bits are 64. -/
namespace Go.Proofs.YtbglmcebkpkccaaGreatDoor
open Go.RowKit
attribute [local go_sem] more_cell more_frozen more_more more_setCell more_of_drew more_of_drewN lt_more le_more past_cell past_cell2 past_frozen past_frozen2 past_setCell past_setCell2 mid_cell mid_frozen mid_setCell
attribute [local go_sem ↓] Go.wp_at_zero Go.wp_at_succ

attribute [local irreducible] FloatKind.decode in
theorem integral_num (nm : String) (way : Ieee.Toward) (r : Nat) (s : Bool) (m : Nat) (i : Int) (hd : FloatKind.f64.decode r = .number s m i) :
    Extern.MathFloor.toIntegral nm way #[.float .f64 r] = pure (.float .f64 (FloatKind.f64.encode (Ieee.Datum.integral way (.number s m i)))) := by
  conv => lhs; whnf
  rw [hd]
theorem arch_run (r : Nat) (h : r < 9218868437227405312) (W : World) : (callFunc 124 #[.float .f64 r]).run Tryz.prog W = .ok (.value (.float .f64 (rndR (ceilR r) 0))) W := by
  rw [run_callFunc_extern Tryz.func124 (by kernel_rfl) (by kernel_rfl) (by kernel_rfl) (e := Extern.MathFloor.toIntegral "math.archCeil" .up) (by kernel_rfl)]
  obtain ⟨m, a, e1, e2⟩ := read_pos h
  have hd : FloatKind.f64.decode r = .number false m (-1074 + (a : Int)) := e1
  have hw : FloatKind.f64.encode (Ieee.Datum.integral .up (.number false m (-1074 + (a : Int)))) = rndR (ceilR r) 0 := by
    show Ieee.double.nearest false (Ieee.Toward.up.cut false (m <<< (-1074 + (a : Int)).toNat) (-(-1074 + (a : Int))).toNat) 0 = _
    rw [ceil_read e2, nearest_word, word_val]
    simp
  rw [integral_num _ _ _ _ _ _ hd, hw]
  rfl
theorem ceil_any (r : Nat) (h : r < 9218868437227405312) (w : World) : Calls Tryz.prog 92 #[.float .f64 r] w fun e w' => e = .returned (.float .f64 (rndR (ceilR r) 0)) ∧ w' = w := by
  have ha := arch_run r h
  clear h
  generalize rndR (ceilR r) 0 = q at *
  go_enter Tryz.func92, Tryz.ntmps92
  go_wp2
  go_ret
  exact ⟨rfl, rfl⟩
theorem toint_run (r : Nat) (h : r < 9218868437227405312) (hf : floorR r ≤ 9223372036854775807) (W : World) : (convert 43 3 (.float .f64 r)).run Tryz.prog W = .ok (.int .i64 (floorR r : Int)) W := by
  refine run_convert_float_int W _ _ _ _ _ _ (by kernel_rfl) Tryz.underlying3 ?_
  obtain ⟨m, a, e1, e2⟩ := read_pos h
  have hd : (FloatKind.f64.decode r).toInt .zero = some (floorR r : Int) := by
    show (Ieee.double.read r).toInt .zero = _
    rw [e1]
    show some (Ieee.signed false (Ieee.Toward.zero.cut false (m <<< (-1074 + (a : Int)).toNat) (-(-1074 + (a : Int))).toNat) 0) = _
    rw [floor_read false e2, signed_sg]
    unfold sgI
    simp
  unfold floatToIntVal
  rw [hd]
  simp only
  rw [if_pos]
  constructor
  · show (-9223372036854775808 : Int) ≤ _; omega
  · show _ ≤ (9223372036854775807 : Int); omega
theorem rungv_ten (e : Nat) : rungv ((e + 11) * 4503599627370496) = 4503599627370496 * 2 ^ (e + 10) := by
  unfold rungv
  rw [if_neg (by omega), Nat.mul_div_cancel _ (by omega), Nat.mul_mod_left, Nat.add_zero]
  rfl
theorem rep_most : Rep 4611686018427387904 := by
  refine ⟨(eT + 11) * 4503599627370496, by rw [eT_eq]; decide, ?_⟩
  rw [rungv_ten, unitT_eq, Nat.pow_add 2 eT 10]
  generalize 2 ^ eT = z
  omega
theorem rndR_up {m n : Nat} (h : m ≤ n) : rndR m 0 ≤ rndR n 0 := rndR_mono 0 (by omega) (by omega) (by simpa using h)
/-- The float of a count. -/
def cntR (n : Int) : Nat := rndR (cutI n).toNat 0
theorem cntR_lt (n : Int) : cntR n < 9218868437227405312 := rndR_small (by have := cutI_s n; unfold sI at this; omega)
theorem intB_cut (n : Int) : floatOfInt .f64 (cutI n) = cntR n := by
  have hs := cutI_s n
  unfold sI at hs
  rw [float_int]
  unfold intB cntR
  have : (cutI n).natAbs = (cutI n).toNat := by omega
  rw [decide_eq_false (by omega), word_val, this, if_neg (by decide)]
def prodR (n : Int) (f : Nat) : Nat := mulR (cntR n) (cleanB f)
/-- The float of the greatest count. -/
def topR : Nat := rndR 4611686018427387904 0
theorem topR_is : topR < 9218868437227405312 ∧ rungv topR = 4611686018427387904 * unitT := rep_round rep_most
theorem cntR_le (n : Int) : cntR n ≤ topR := by
  have hs := cutI_s n
  unfold sI at hs
  exact rndR_up (by omega)
theorem prodR_le (n : Int) (f : Nat) : prodR n f ≤ topR := Nat.le_trans (mulR_le (cntR_lt n) (cleanB_le f)) (cntR_le n)
attribute [irreducible] topR
theorem prodR_lt (n : Int) (f : Nat) : prodR n f < 9218868437227405312 := by
  have h1 := prodR_le n f
  have h2 := topR_is.1
  omega
theorem ceil_top : ceilR topR = 4611686018427387904 := by
  unfold ceilR
  rw [topR_is.2]
  exact ceilN_eq unitT_pos (Nat.le_refl _) (by have := unitT_pos; omega)
theorem ceil_most (n : Int) (f : Nat) : ceilR (prodR n f) ≤ 4611686018427387904 := by
  have h1 : ceilR (prodR n f) ≤ ceilR topR := ceilN_mono unitT_pos (rungv_le (prodR_le n f))
  rw [ceil_top] at h1
  exact h1
theorem floor_rep {k : Nat} (h : Rep k) : floorR (rndR k 0) = k := by
  unfold floorR
  rw [(rep_round h).2, Nat.mul_div_cancel _ unitT_pos]
theorem mul_run (x y r : Nat) (h : Ieee.double.mul x y = some r) (W : World) : (binOp .mul 43 (.float .f64 x) (.float .f64 y)).run Tryz.prog W = .ok (.float .f64 r) W :=
  run_float_arith W .mul _ .f64 x y r h
/-- So much of n, rounded up. -/
def scaleI (n : Int) (f : Nat) : Int := min (cutI n) (ceilR (prodR n f) : Int)
theorem scale_any (n : Int) (f : Nat) (hf : f < 18446744073709551616) (w : World) : Calls Tryz.prog 53 #[.int .i64 n, .float .f64 f] w fun e w' => e = .returned (.int .i64 (scaleI n f)) ∧ w' = w := by
  have hi := intB_cut n
  have hm := mul_run _ _ _ (mul_some (cntR_lt n) (show cleanB f < 9218868437227405312 by have := cleanB_le f; omega))
  have hp := prodR_lt n f
  have hc := ceil_most n f
  have hrep := rep_ceil hp
  have ht := toint_run (rndR (ceilR (prodR n f)) 0) (rep_round hrep).1 (by rw [floor_rep hrep]; omega)
  rw [floor_rep hrep] at ht
  have HM : ∀ W : World, (binOp .mul 43 (.float .f64 (cntR n)) (.float .f64 (cleanB f))).run Tryz.prog W = .ok (.float .f64 (prodR n f)) W := hm
  have HC := Lib.hid (ceil_any (prodR n f) hp)
  have HF := Lib.hid (clean_any f hf)
  unfold scaleI
  clear hm hp hrep hf hc
  generalize prodR n f = p at *
  generalize ceilR p = k at *
  generalize rndR k 0 = q at *
  generalize cleanB f = y at *
  generalize cntR n = x at *
  go_enter Tryz.func53, Tryz.ntmps53
  go_wp2_with (first | (go_at_call 74; refine (cut_any _ _).mono ?_; rintro e w' ⟨rfl, rfl⟩) | (go_at_call 93; refine (HF.out _).mono ?_; rintro e w' ⟨rfl, rfl⟩) | (go_at_call 92; refine (HC.out _).mono ?_; rintro e w' ⟨rfl, rfl⟩))
  go_ret
  exact ⟨rfl, rfl⟩
theorem rscale_any (n : Int) (f : Nat) (hf : f < 18446744073709551616) (w : World) : Calls Tryz.prog 42 #[.int .i64 n, .float .f64 f] w fun e w' => e = .returned (.int .i64 (scaleI n f)) ∧ w' = w := by
  have hi := intB_cut n
  have hm := mul_run _ _ _ (mul_some (cntR_lt n) (show cleanB f < 9218868437227405312 by have := cleanB_le f; omega))
  have hp := prodR_lt n f
  have hc := ceil_most n f
  have hcf := ceil_floor (prodR n f)
  have hfl : floorR (prodR n f) ≤ 4611686018427387904 := by split at hcf <;> omega
  have hrep := rep_floor hp
  have hrr := rep_round hrep
  have ht := toint_run (prodR n f) hp (by omega)
  have HM : ∀ W : World, (binOp .mul 43 (.float .f64 (cntR n)) (.float .f64 (cleanB f))).run Tryz.prog W = .ok (.float .f64 (prodR n f)) W := hm
  have HF := Lib.hid (rclean_any f hf)
  have hk : floatOfInt .f64 (floorR (prodR n f) : Int) = rndR (floorR (prodR n f)) 0 := by
    rw [float_int]
    unfold intB
    rw [decide_eq_false (by omega), word_val, if_neg (by decide), Int.natAbs_natCast]
  have hord : FloatKind.f64.format.order (rndR (floorR (prodR n f)) 0) (prodR n f) = if floorR (prodR n f) * unitT < rungv (prodR n f) then some .lt else some .eq := by
    rw [ord_pos (by omega) (by omega)]
    have hle := floor_le (prodR n f)
    rw [← hrr.2] at hle ⊢
    split
    · rename_i h
      congr 1
      refine cmp_lt ?_
      rcases Nat.lt_or_ge (rndR (floorR (prodR n f)) 0) (prodR n f) with h1 | h1
      · exact h1
      · have := rungv_le h1; omega
    · rename_i h
      have : rndR (floorR (prodR n f)) 0 = prodR n f := rungv_inj (by omega)
      rw [this]
      congr 1
      exact Nat.compare_eq_eq.2 rfl
  have hs := cutI_s n
  unfold sI at hs
  obtain ⟨s0, s1⟩ := hs
  unfold scaleI
  clear hm hp hrep hrr hf
  rw [hcf] at hc ⊢
  clear hcf
  by_cases hb : floorR (prodR n f) * unitT < rungv (prodR n f)
  · rw [if_pos hb] at hord hc ⊢
    clear hb
    generalize prodR n f = p at *
    generalize floorR p = k at *
    generalize rndR k 0 = q at *
    generalize cleanB f = y at *
    generalize cntR n = x at *
    go_enter Tryz.func42, Tryz.ntmps42
    go_wp2_with (first | (go_at_call 85; refine (rcut_any _ _).mono ?_; rintro e w' ⟨rfl, rfl⟩) | (go_at_call 86; refine (HF.out _).mono ?_; rintro e w' ⟨rfl, rfl⟩))
    all_goals
      go_ret
      exact ⟨ret_int (by omega), rfl⟩
  · rw [if_neg hb] at hord hc ⊢
    clear hb
    generalize prodR n f = p at *
    generalize floorR p = k at *
    generalize rndR k 0 = q at *
    generalize cleanB f = y at *
    generalize cntR n = x at *
    go_enter Tryz.func42, Tryz.ntmps42
    go_wp2_with (first | (go_at_call 85; refine (rcut_any _ _).mono ?_; rintro e w' ⟨rfl, rfl⟩) | (go_at_call 86; refine (HF.out _).mono ?_; rintro e w' ⟨rfl, rfl⟩))
    all_goals
      go_ret
      exact ⟨ret_int (by omega), rfl⟩
end Go.Proofs.YtbglmcebkpkccaaGreatDoor

/- The laws of shares of floats and of quotients, and of parts of counts, of layer 28. No condition but that bits are 64. -/
namespace Go.Proofs.YtbglmcebkpkccaaGreatDoor
open Go.RowKit
attribute [local go_sem] more_cell more_frozen more_more more_setCell more_of_drew more_of_drewN lt_more le_more past_cell past_cell2 past_frozen past_frozen2 past_setCell past_setCell2 mid_cell mid_frozen mid_setCell
attribute [local go_sem ↓] Go.wp_at_zero Go.wp_at_succ

end Go.Proofs.YtbglmcebkpkccaaGreatDoor

namespace Go.Proofs.YtbglmcebkpkccaaGreatDoor
open Go.RowKit
attribute [local go_sem] more_cell more_frozen more_more more_setCell more_of_drew more_of_drewN lt_more le_more past_cell past_cell2 past_frozen past_frozen2 past_setCell past_setCell2 mid_cell mid_frozen mid_setCell
attribute [local go_sem ↓] Go.wp_at_zero Go.wp_at_succ

def notB (f : Nat) : Nat := (Ieee.double.sub 4607182418800017408 (cleanB f)).getD 0
theorem notB_is (f : Nat) : Ieee.double.sub 4607182418800017408 (cleanB f) = some (notB f) ∧ notB f ≤ 4607182418800017408 := by
  obtain ⟨r, h1, h2⟩ := sub_one (cleanB_le f)
  unfold notB
  rw [h1]
  exact ⟨rfl, h2⟩
theorem sub_run (x y r : Nat) (h : Ieee.double.sub x y = some r) (W : World) : (binOp .sub 43 (.float .f64 x) (.float .f64 y)).run Tryz.prog W = .ok (.float .f64 r) W :=
  run_float_arith W .sub _ .f64 x y r h
theorem add_run (x y r : Nat) (h : Ieee.double.add x y = some r) (W : World) : (binOp .add 43 (.float .f64 x) (.float .f64 y)).run Tryz.prog W = .ok (.float .f64 r) W :=
  run_float_arith W .add _ .f64 x y r h
theorem fnot_any (f : Nat) (hf : f < 18446744073709551616) (w : World) : Calls Tryz.prog 129 #[.float .f64 f] w fun e w' => e = .returned (.float .f64 (notB f)) ∧ w' = w := by
  have hs := sub_run _ _ _ (notB_is f).1
  have HC := Lib.hid (clean_any f hf)
  clear hf
  generalize notB f = r at *
  generalize cleanB f = c at *
  go_enter Tryz.func129, Tryz.ntmps129
  go_wp2_with (go_at_call 93; refine (HC.out _).mono ?_; rintro e w' ⟨rfl, rfl⟩)
  go_ret
  exact ⟨rfl, rfl⟩
theorem frnot_any (f : Nat) (hf : f < 18446744073709551616) (w : World) : Calls Tryz.prog 80 #[.float .f64 f] w fun e w' => e = .returned (.float .f64 (notB f)) ∧ w' = w := by
  have hs := sub_run _ _ _ (notB_is f).1
  have HC := Lib.hid (rclean_any f hf)
  clear hf
  generalize notB f = r at *
  generalize cleanB f = c at *
  go_enter Tryz.func80, Tryz.ntmps80
  go_wp2_with (go_at_call 86; refine (HC.out _).mono ?_; rintro e w' ⟨rfl, rfl⟩)
  go_ret
  exact ⟨rfl, rfl⟩
theorem mulR_share {x y : Nat} (hx : x ≤ 4607182418800017408) (hy : y ≤ 4607182418800017408) : mulR x y ≤ 4607182418800017408 := Nat.le_trans (mulR_le (by omega) hy) hx
/-- One of two shares. -/
def orB (a b : Nat) : Nat := cleanB ((Ieee.double.sub ((Ieee.double.add (cleanB a) (cleanB b)).getD 0) (mulR (cleanB a) (cleanB b))).getD 0)
theorem orB_is (a b : Nat) : ∃ s t, Ieee.double.add (cleanB a) (cleanB b) = some s ∧ Ieee.double.sub s (mulR (cleanB a) (cleanB b)) = some t ∧ t < 18446744073709551616 ∧ cleanB t = orB a b := by
  obtain ⟨s, h1, h2⟩ := add_share (cleanB_le a) (cleanB_le b)
  have h3 := mulR_share (cleanB_le a) (cleanB_le b)
  obtain ⟨t, h4⟩ := sub_fin (x := s) (y := mulR (cleanB a) (cleanB b)) (by rw [rung_pos h2]; exact h2) (by rw [rung_pos (by omega)]; omega)
  refine ⟨s, t, h1, h4, sub_lt h4, ?_⟩
  unfold orB
  rw [h1, Option.getD_some, h4, Option.getD_some]
theorem fo_or_any (a b : Nat) (ha : a < 18446744073709551616) (hb : b < 18446744073709551616) (w : World) : Calls Tryz.prog 130 #[.float .f64 a, .float .f64 b] w fun e w' => e = .returned (.float .f64 (orB a b)) ∧ w' = w := by
  obtain ⟨s, t, h1, h2, h3, h4⟩ := orB_is a b
  have hA := add_run _ _ _ h1
  have hS := sub_run _ _ _ h2
  have hm := mul_run _ _ _ (mul_some (show cleanB a < 9218868437227405312 by have := cleanB_le a; omega) (show cleanB b < 9218868437227405312 by have := cleanB_le b; omega))
  have HC := Lib.hid (clean_any a ha)
  have HD := Lib.hid (clean_any b hb)
  have HT := Lib.hid (clean_to t _ h3 h4)
  clear ha hb h1 h2 h3 h4
  generalize orB a b = r at *
  generalize cleanB a = x at *
  generalize cleanB b = y at *
  generalize mulR x y = p at *
  go_enter Tryz.func130, Tryz.ntmps130
  go_wp2_with (first | (go_at_call 93; (with_reducible refine (HC.out _).mono ?_); rintro e w' ⟨rfl, rfl⟩) | (go_at_call 93; (with_reducible refine (HD.out _).mono ?_); rintro e w' ⟨rfl, rfl⟩) | (go_at_call 93; (with_reducible refine (HT.out _).mono ?_); rintro e w' ⟨rfl, rfl⟩))
  go_ret
  exact ⟨rfl, rfl⟩
theorem fo_ror_any (a b : Nat) (ha : a < 18446744073709551616) (hb : b < 18446744073709551616) (w : World) : Calls Tryz.prog 79 #[.float .f64 a, .float .f64 b] w fun e w' => e = .returned (.float .f64 (orB a b)) ∧ w' = w := by
  obtain ⟨s, t, h1, h2, h3, h4⟩ := orB_is a b
  have hA := add_run _ _ _ h1
  have hS := sub_run _ _ _ h2
  have hm := mul_run _ _ _ (mul_some (show cleanB a < 9218868437227405312 by have := cleanB_le a; omega) (show cleanB b < 9218868437227405312 by have := cleanB_le b; omega))
  have HC := Lib.hid (rclean_any a ha)
  have HD := Lib.hid (rclean_any b hb)
  have HT := Lib.hid (rclean_to t _ h3 h4)
  clear ha hb h1 h2 h3 h4
  generalize orB a b = r at *
  generalize cleanB a = x at *
  generalize cleanB b = y at *
  generalize mulR x y = p at *
  go_enter Tryz.func79, Tryz.ntmps79
  go_wp2_with (first | (go_at_call 86; (with_reducible refine (HC.out _).mono ?_); rintro e w' ⟨rfl, rfl⟩) | (go_at_call 86; (with_reducible refine (HD.out _).mono ?_); rintro e w' ⟨rfl, rfl⟩) | (go_at_call 86; (with_reducible refine (HT.out _).mono ?_); rintro e w' ⟨rfl, rfl⟩))
  go_ret
  exact ⟨rfl, rfl⟩
/-- All shares. -/
def andF (l : List Nat) (a : Nat) : Nat := l.foldl (fun a f => mulR a (cleanB f)) a
theorem andF_le (l : List Nat) : ∀ a, a ≤ 4607182418800017408 → andF l a ≤ a := by
  induction l with
  | nil => intro a _; exact Nat.le_refl _
  | cons f l ih =>
    intro a h
    have h1 := mulR_le (x := a) (by omega) (cleanB_le f)
    have h2 := ih (mulR a (cleanB f)) (by omega)
    show andF l (mulR a (cleanB f)) ≤ a
    omega
theorem andF_take (l : List Nat) (a : Nat) (k : Nat) (h : k < l.length) : andF (l.take (k + 1)) a = mulR (andF (l.take k) a) (cleanB l[k]) := by
  rw [List.take_succ_eq_append_getElem h]
  unfold andF
  rw [List.foldl_append]
  rfl
def FkAndAt (l : List Nat) (x i : Value) : Prop := ∃ k : Nat, k ≤ l.length ∧ i = .int .i64 k ∧ x = .float .f64 (andF (l.take k) 4607182418800017408)
theorem fo_and_any (l : List Nat) (A : Option Addr) (c : Nat) (hl : l.length ≤ 1000000) (hall : ∀ x ∈ l, x < 18446744073709551616) (w : World) (hr : Row w A (l.map (Value.float .f64))) :
    Calls Tryz.prog 55 #[.slice A l.length c] w fun e w' => e = .returned (.float .f64 (andF l 4607182418800017408)) ∧ w' = w := by
  have HR := Lib.hid hr
  have HA := Lib.hid hall
  clear hr hall
  go_enter Tryz.func55, Tryz.ntmps55
  go_wp2
  go_loop [3, 8] (fun x i => FkAndAt l x i) (fun _ i => l.length - (intOf i).toNat)
  case atStart => exact ⟨0, Nat.zero_le _, rfl, rfl⟩
  case round =>
    obtain ⟨k, hk, rfl, rfl⟩ := hrel
    by_cases h : k < l.length
    · obtain ⟨b, o, rfl, hb, hc⟩ := HR.out.at_ (k := k) (by simpa using h)
      simp only [List.getElem_map] at hc
      have HT := Lib.hid (andF_take l 4607182418800017408 k h)
      have hle := andF_le (l.take k) 4607182418800017408 (by omega)
      have hm := mul_run _ _ _ (mul_some (show andF (l.take k) 4607182418800017408 < 9218868437227405312 by omega) (show cleanB l[k] < 9218868437227405312 by have := cleanB_le l[k]; omega))
      have HC := Lib.hid (clean_any l[k] (HA.out _ (List.getElem_mem h)))
      clear hle
      generalize andF (l.take k) 4607182418800017408 = x at *
      generalize cleanB l[k] = y at *
      generalize l[k] = z at *
      go_wp2_with (go_at_call 93; refine (HC.out _).mono ?_; rintro e w' ⟨rfl, rfl⟩)
      case roundEnd => exact ⟨⟨k + 1, by omega, by simp, by rw [HT.out]⟩, by simp only [intOf]; omega⟩
    · obtain rfl : k = l.length := by omega
      rw [List.take_length]
      go_wp2
      go_ret
      exact ⟨rfl, rfl⟩
theorem fo_rand_any (l : List Nat) (A : Option Addr) (c : Nat) (hl : l.length ≤ 1000000) (hall : ∀ x ∈ l, x < 18446744073709551616) (w : World) (hr : Row w A (l.map (Value.float .f64))) :
    Calls Tryz.prog 44 #[.slice A l.length c] w fun e w' => e = .returned (.float .f64 (andF l 4607182418800017408)) ∧ w' = w := by
  have HR := Lib.hid hr
  have HA := Lib.hid hall
  clear hr hall
  go_enter Tryz.func44, Tryz.ntmps44
  go_wp2
  go_loop [3, 4] (fun x i => FkAndAt l x i) (fun _ i => l.length - (intOf i).toNat)
  case atStart => exact ⟨0, Nat.zero_le _, rfl, rfl⟩
  case round =>
    obtain ⟨k, hk, rfl, rfl⟩ := hrel
    by_cases h : k < l.length
    · obtain ⟨b, o, rfl, hb, hc⟩ := HR.out.at_ (k := k) (by simpa using h)
      simp only [List.getElem_map] at hc
      have HT := Lib.hid (andF_take l 4607182418800017408 k h)
      have hle := andF_le (l.take k) 4607182418800017408 (by omega)
      have hm := mul_run _ _ _ (mul_some (show andF (l.take k) 4607182418800017408 < 9218868437227405312 by omega) (show cleanB l[k] < 9218868437227405312 by have := cleanB_le l[k]; omega))
      have HC := Lib.hid (rclean_any l[k] (HA.out _ (List.getElem_mem h)))
      clear hle
      generalize andF (l.take k) 4607182418800017408 = x at *
      generalize cleanB l[k] = y at *
      generalize l[k] = z at *
      go_wp2_with (go_at_call 86; refine (HC.out _).mono ?_; rintro e w' ⟨rfl, rfl⟩)
      case roundEnd => exact ⟨⟨k + 1, by omega, by simp, by rw [HT.out]⟩, by simp only [intOf]; omega⟩
    · obtain rfl : k = l.length := by omega
      rw [List.take_length]
      go_wp2
      go_ret
      exact ⟨rfl, rfl⟩
end Go.Proofs.YtbglmcebkpkccaaGreatDoor
