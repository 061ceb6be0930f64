/- Layer 28: the nearest share by the document's own answer; quotients of integers. No condition but that bits are 64. -/
import Derived.Test.YtlnpiemnkpogfaaFrac
import Derived.Test.YtlnpiemnkpogfaaFloat3
namespace Go.Proofs.Ytlnpiemnkpogfaa
open Go.RowKit
attribute [local go_sem] more_cell more_frozen more_more more_setCell more_of_drew more_of_drewN lt_more le_more past_cell past_cell2 past_frozen past_frozen2 past_setCell past_setCell2 mid_cell mid_frozen mid_setCell
attribute [local go_sem ↓] Go.wp_at_zero Go.wp_at_succ

theorem Gives.calls {P : Program} {f : FuncId} {args : Array Value} {w : World} {v : Value} (h : Gives P f args w v) : Calls P f args w fun e w' => e = .returned v ∧ ∃ x, w' = more w x := h
theorem fbits_run (x : Nat) (W : World) : (callFunc 81 #[.float .f64 x]).run Try.prog W = .ok (.value (.int .u64 x)) W := by
  rw [run_callFunc_extern Try.func81 (by kernel_rfl) (by kernel_rfl) (by kernel_rfl) (e := Extern.MathFloatBits.float64bits) (by kernel_rfl)]
  rfl
set_option maxRecDepth 100000 in
theorem rclean_any (x : Nat) (hx : x < 18446744073709551616) (w : World) : Calls Try.prog 33 #[.float .f64 x] w fun e w' => e = .returned (.float .f64 (cleanB x)) ∧ w' = w := by
  have hb := fbits_run x
  obtain ⟨m, hm⟩ : ∃ m, x % 9223372036854775808 = m := ⟨_, rfl⟩
  have hm' : (x : Int) % 9223372036854775808 = (m : Int) := by omega
  have hx' : (x : Int) < 18446744073709551616 := by omega
  rcases (by omega : 9218868437227405312 < m ∨ (m ≤ 9218868437227405312 ∧ x ≠ m) ∨ (m = 0 ∧ x = m) ∨ (0 < m ∧ m < 4607182418800017408 ∧ x = m) ∨ (4607182418800017408 ≤ m ∧ m ≤ 9218868437227405312 ∧ x = m)) with h | ⟨h, h'⟩ | ⟨h, h'⟩ | ⟨h, h1, h'⟩ | ⟨h, h1, h'⟩
  · have hc : cleanB x = 4607182418800017408 := by unfold cleanB; rw [hm, if_pos h]
    rw [hc]
    have g1 : (9218868437227405312 : Int) < (m : Int) := by omega
    clear hc hm
    go_enter Try.func33, Try.ntmps33
    go_wp2
    go_ret
    exact ⟨rfl, rfl⟩
  · have hc : cleanB x = 0 := by unfold cleanB; rw [hm, if_neg (by omega), if_pos (by omega)]
    rw [hc]
    have g1 : (m : Int) ≤ 9218868437227405312 := by omega
    have g2 : ((x : Int) != (m : Int)) = true := by rw [bne_iff_ne]; omega
    have g3 : decide ((9218868437227405312 : Int) < (m : Int)) = false := decide_eq_false (by omega)
    clear hc hm h h' g1 hx
    go_enter Try.func33, Try.ntmps33
    go_wp2
    go_ret
    exact ⟨rfl, rfl⟩
  · subst h
    subst h'
    have hc : cleanB 0 = 0 := rfl
    rw [hc]
    clear hc hm hm'
    go_enter Try.func33, Try.ntmps33
    go_wp2
    go_ret
    exact ⟨rfl, rfl⟩
  · subst h'
    have hc : cleanB x = x := cleanB_self (by omega)
    rw [hc]
    have g1 : decide ((4607182418800017408 : Int) ≤ (x : Int)) = false := decide_eq_false (by omega)
    have g2 : ((x : Int) != (x : Int)) = false := by simp
    have g3 : ((x : Int) == 0) = false := by rw [beq_eq_false_iff_ne]; omega
    have g5 : decide ((9218868437227405312 : Int) < (x : Int)) = false := decide_eq_false (by omega)
    clear hc hm h h1 hx
    go_enter Try.func33, Try.ntmps33
    go_wp2
    go_ret
    exact ⟨rfl, rfl⟩
  · subst h'
    have hc : cleanB x = 4607182418800017408 := by unfold cleanB; rw [hm, if_neg (by omega), if_neg (by omega), if_pos (by omega)]
    rw [hc]
    have g1 : (4607182418800017408 : Int) ≤ (x : Int) := by omega
    have g2 : ((x : Int) != (x : Int)) = false := by simp
    have g3 : ((x : Int) == 0) = false := by rw [beq_eq_false_iff_ne]; omega
    have g5 : decide ((9218868437227405312 : Int) < (x : Int)) = false := decide_eq_false (by omega)
    clear hc hm h h1 hx
    go_enter Try.func33, Try.ntmps33
    go_wp2
    go_ret
    exact ⟨rfl, rfl⟩
theorem same_any (x y : Nat) (w : World) : Calls Try.prog 32 #[.float .f64 x, .float .f64 y] w fun e w' => e = .returned (.bool ((x : Int) == (y : Int))) ∧ w' = w := by
  have hb := fbits_run x
  have hb2 := fbits_run y
  go_enter Try.func32, Try.ntmps32
  go_wp2
  go_ret
  exact ⟨rfl, rfl⟩
theorem share_any (x : Nat) (h : x ≤ 4607182418800017408) (w : World) : Calls Try.prog 34 #[.float .f64 x] w fun e w' => e = .returned (.bool true) ∧ w' = w := by
  have hb := fbits_run x
  have h' : (x : Int) ≤ 4607182418800017408 := by omega
  go_enter Try.func34, Try.ntmps34
  go_wp2
  go_ret
  exact ⟨rfl, rfl⟩
theorem float_int (n : Int) : floatOfInt .f64 n = intB n := nearest_word _ _ _
def isI64 (n : Int) : Prop := -9223372036854775808 ≤ n ∧ n ≤ 9223372036854775807
theorem quo_run (x y r : Nat) (h : Ieee.double.div x y = some r) (W : World) : (binOp .quo 29 (.float .f64 x) (.float .f64 y)).run Try.prog W = .ok (.float .f64 r) W :=
  run_float_arith W .quo _ .f64 x y r h
/-- A quotient that is no number: which one, is left open. -/
def anyNan (W : World) : Nat := (Question.nanBits .f64 (intB 0) (intB 0)).cut (W.tape W.drawn (Question.nanBits .f64 (intB 0) (intB 0)))
theorem anyNan_nan (W : World) : anyNan W < 18446744073709551616 ∧ cleanB (anyNan W) = 4607182418800017408 := by
  unfold anyNan
  simp only [Question.cut]
  generalize W.tape W.drawn (Question.nanBits .f64 (intB 0) (intB 0)) = t
  have hu : t % 2 = 0 ∨ t % 2 = 1 := by omega
  have hv : t / 2 % (2 ^ 52 - 1) < 4503599627370495 := Nat.mod_lt _ (by decide)
  generalize t % 2 = u at *
  generalize t / 2 % (2 ^ 52 - 1) = v at *
  constructor
  · rcases hu with rfl | rfl <;> omega
  · unfold cleanB
    rw [if_pos (by rcases hu with rfl | rfl <;> omega)]
theorem quo_nan (W : World) : (binOp .quo 29 (.float .f64 (intB 0)) (.float .f64 (intB 0))).run Try.prog W = .ok (.float .f64 (anyNan W)) W.drew := by
  have h : FloatKind.f64.format.div (intB 0) (intB 0) = none := div_nan
  simp [binOp, Op.floatArith, h, anyNan, Question.forced]
theorem clean_to (x y : Nat) (hx : x < 18446744073709551616) (h : cleanB x = y) (w : World) : Calls Try.prog 30 #[.float .f64 x] w fun e w' => e = .returned (.float .f64 y) ∧ w' = w := by
  rw [← h]
  exact clean_any x hx w
theorem rclean_to (x y : Nat) (hx : x < 18446744073709551616) (h : cleanB x = y) (w : World) : Calls Try.prog 33 #[.float .f64 x] w fun e w' => e = .returned (.float .f64 y) ∧ w' = w := by
  rw [← h]
  exact rclean_any x hx w
theorem of_any (a b : Int) (ha : isI64 a) (hb : isI64 b) (w : World) : Gives Try.prog 31 #[.int .i64 a, .int .i64 b] w (.float .f64 (ofB a b)) := by
  unfold isI64 at ha hb
  have fa := float_int a
  have fb := float_int b
  by_cases h : b = 0
  · subst h
    by_cases h0 : a = 0
    · subst h0
      have hr : ofB 0 0 = 4607182418800017408 := rfl
      rw [hr]
      have hq := quo_nan
      unfold Gives
      clear hr
      go_enter Try.func31, Try.ntmps31
      go_wp2_with (go_at_call 30; refine (clean_to _ _ (anyNan_nan _).1 (anyNan_nan _).2 _).mono ?_; rintro e w' ⟨rfl, rfl⟩)
      go_ret
      exact ⟨rfl, by (show Grew _ _; repeat (first | exact Grew.refl _ | refine Grew.alloc ?_ _ | refine Grew.drew ?_ | refine Grew.more ?_ _))⟩
    · have hd := div_inf a (by omega) h0
      obtain ⟨r, hrr⟩ : ∃ r, Ieee.double.word (decide (a < 0)) 9218868437227405312 = r := ⟨_, rfl⟩
      have hw : r < 18446744073709551616 := by rw [← hrr, word_val]; split <;> omega
      have hc : cleanB r = ofB a 0 := by
        rw [← hrr, clean_word _ _ (by omega)]
        unfold ofB
        rw [if_pos rfl]
        by_cases hn : a < 0
        · rw [decide_eq_true hn, if_pos hn]; rfl
        · rw [decide_eq_false hn, if_neg hn]; rfl
      rw [hrr] at hd
      have HC := Lib.hid hc
      have hq := quo_run _ _ _ hd
      clear hd hc hrr
      generalize ofB a 0 = R at *
      generalize intB a = x at *
      generalize intB 0 = y at *
      unfold Gives
      go_enter Try.func31, Try.ntmps31
      go_wp2_with (go_at_call 30; refine (clean_to _ _ hw HC.out _).mono ?_; rintro e w' ⟨rfl, rfl⟩)
      go_ret
      exact ⟨rfl, by (show Grew _ _; repeat (first | exact Grew.refl _ | refine Grew.alloc ?_ _ | refine Grew.drew ?_ | refine Grew.more ?_ _))⟩
  · obtain ⟨r, h1, _, h3⟩ := div_some a b (by omega) (by omega) h
    obtain ⟨q, hq0⟩ : ∃ q, Ieee.double.word (decide (a < 0) ^^ decide (b < 0)) r = q := ⟨_, rfl⟩
    have hw : q < 18446744073709551616 := by rw [← hq0, word_val]; split <;> omega
    rw [hq0] at h3
    have hc : cleanB q = ofB a b := by
      unfold ofB
      rw [if_neg h, h3]
      rfl
    have HC := Lib.hid hc
    have hq := quo_run _ _ _ h3
    clear h3 hc hq0
    generalize ofB a b = R at *
    generalize intB a = x at *
    generalize intB b = y at *
    unfold Gives
    go_enter Try.func31, Try.ntmps31
    go_wp2_with (go_at_call 30; refine (clean_to _ _ hw HC.out _).mono ?_; rintro e w' ⟨rfl, rfl⟩)
    go_ret
    exact ⟨rfl, by (show Grew _ _; repeat (first | exact Grew.refl _ | refine Grew.alloc ?_ _ | refine Grew.drew ?_ | refine Grew.more ?_ _))⟩
theorem rof_any (a b : Int) (ha : isI64 a) (hb : isI64 b) (w : World) : Gives Try.prog 35 #[.int .i64 a, .int .i64 b] w (.float .f64 (ofB a b)) := by
  unfold isI64 at ha hb
  have fa := float_int a
  have fb := float_int b
  by_cases h : b = 0
  · subst h
    by_cases h0 : a < 0
    · have hr : ofB a 0 = 0 := by unfold ofB; rw [if_pos rfl, if_pos h0]
      rw [hr]
      clear hr
      unfold Gives
      go_enter Try.func35, Try.ntmps35
      go_wp2
      go_ret
      exact ⟨rfl, by (show Grew _ _; repeat (first | exact Grew.refl _ | refine Grew.alloc ?_ _ | refine Grew.drew ?_ | refine Grew.more ?_ _))⟩
    · have hr : ofB a 0 = 4607182418800017408 := by unfold ofB; rw [if_pos rfl, if_neg h0]
      rw [hr]
      clear hr
      unfold Gives
      go_enter Try.func35, Try.ntmps35
      go_wp2
      go_ret
      exact ⟨rfl, by (show Grew _ _; repeat (first | exact Grew.refl _ | refine Grew.alloc ?_ _ | refine Grew.drew ?_ | refine Grew.more ?_ _))⟩
  · have hbb : (b == 0) = false := by rw [beq_eq_false_iff_ne]; exact h
    by_cases h0 : a = 0 ∨ (a < 0 ∧ 0 < b) ∨ (0 < a ∧ b < 0)
    · have hr := ofB_zero (by omega) (by omega) h h0
      rw [hr]
      clear hr
      unfold Gives
      rcases h0 with rfl | ⟨h1, h2⟩ | ⟨h1, h2⟩
      · go_enter Try.func35, Try.ntmps35
        go_wp2
        go_ret
        exact ⟨rfl, by (show Grew _ _; repeat (first | exact Grew.refl _ | refine Grew.alloc ?_ _ | refine Grew.drew ?_ | refine Grew.more ?_ _))⟩
      · have haa : (a == 0) = false := by rw [beq_eq_false_iff_ne]; omega
        go_enter Try.func35, Try.ntmps35
        go_wp2
        go_ret
        exact ⟨rfl, by (show Grew _ _; repeat (first | exact Grew.refl _ | refine Grew.alloc ?_ _ | refine Grew.drew ?_ | refine Grew.more ?_ _))⟩
      · have haa : (a == 0) = false := by rw [beq_eq_false_iff_ne]; omega
        go_enter Try.func35, Try.ntmps35
        go_wp2
        go_ret
        exact ⟨rfl, by (show Grew _ _; repeat (first | exact Grew.refl _ | refine Grew.alloc ?_ _ | refine Grew.drew ?_ | refine Grew.more ?_ _))⟩
    · obtain ⟨r, h1, _, h3⟩ := div_some a b (by omega) (by omega) h
      obtain ⟨q, hq0⟩ : ∃ q, Ieee.double.word (decide (a < 0) ^^ decide (b < 0)) r = q := ⟨_, rfl⟩
      have hw : q < 18446744073709551616 := by rw [← hq0, word_val]; split <;> omega
      rw [hq0] at h3
      have hc : cleanB q = ofB a b := by
        unfold ofB
        rw [if_neg h, h3]
        rfl
      have HC := Lib.hid hc
      have hq := quo_run _ _ _ h3
      have haa : (a == 0) = false := by rw [beq_eq_false_iff_ne]; omega
      clear h3 hc hq0
      generalize ofB a b = R at *
      generalize intB a = x at *
      generalize intB b = y at *
      unfold Gives
      rcases (by omega : (0 < a ∧ 0 < b) ∨ (a < 0 ∧ b < 0)) with ⟨k1, k2⟩ | ⟨k1, k2⟩
      all_goals
        clear h0
        go_enter Try.func35, Try.ntmps35
        go_wp2_with (go_at_call 33; refine (rclean_to _ _ hw HC.out _).mono ?_; rintro e w' ⟨rfl, rfl⟩)
        go_ret
        exact ⟨rfl, by (show Grew _ _; repeat (first | exact Grew.refl _ | refine Grew.alloc ?_ _ | refine Grew.drew ?_ | refine Grew.more ?_ _))⟩
end Go.Proofs.Ytlnpiemnkpogfaa
