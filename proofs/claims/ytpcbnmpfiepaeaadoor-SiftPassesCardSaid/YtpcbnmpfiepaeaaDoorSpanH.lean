/- Layer 19: what a span tells; the size of what is asked; the page's example. Condition: texts that fit into memory. -/
import Derived.Test.YtpcbnmpfiepaeaaDoorSpan2
namespace Go.Proofs.YtpcbnmpfiepaeaaDoor
open Go.RowKit
attribute [local go_sem] more_cell more_frozen more_more more_setCell more_of_drew more_of_drewN lt_more le_more past_cell past_cell2 past_frozen past_frozen2 past_setCell past_setCell2 mid_cell mid_frozen mid_setCell
attribute [local go_sem ↓] Go.wp_at_zero Go.wp_at_succ

theorem nulls_to (s : S) (t : Bool) (ht : decide (0 < s.nulls) = t) (w : World) : Calls Tryd.prog 63 #[sa s] w fun e w' => e = .returned (.bool t) ∧ ∃ z, w' = more w z := by
  subst ht
  obtain ⟨⟨lk, li, ls⟩, ⟨hk, hi, hs⟩, wh, nu⟩ := s
  show Calls Tryd.prog 63 #[.agg #[.int .i64 lk, .int .i64 li, .string ls, .int .i64 hk, .int .i64 hi, .string hs, .int .i64 wh, .int .i64 nu]] w _
  go_enter Tryd.func63, Tryd.ntmps63
  go_wp2
  go_ret
  exact ⟨rfl, by (show Grew _ _; repeat (first | exact Grew.refl _ | refine Grew.alloc ?_ _ | refine Grew.drew ?_ | refine Grew.more ?_ _))⟩
set_option maxHeartbeats 2000000 in
theorem has_to (s : S) (v : V) (t : Bool) (ht : hasS s v = t) (w : World) : Calls Tryd.prog 44 #[sa s, va v] w fun e w' => e = .returned (.bool t) ∧ ∃ z, w' = more w z := by
  subst ht
  obtain ⟨⟨lk, li, ls⟩, ⟨hk, hi, hs⟩, wh, nu⟩ := s
  obtain ⟨k, i, x⟩ := v
  show Calls Tryd.prog 44 #[.agg #[.int .i64 lk, .int .i64 li, .string ls, .int .i64 hk, .int .i64 hi, .string hs, .int .i64 wh, .int .i64 nu], .agg #[.int .i64 k, .int .i64 i, .string x]] w _
  by_cases h : k = 0
  · have hb : (k == 0) = true := by rw [beq_iff_eq]; exact h
    have e : hasS ⟨⟨lk, li, ls⟩, ⟨hk, hi, hs⟩, wh, nu⟩ ⟨k, i, x⟩ = decide (0 < nu) := if_pos h
    rw [e]
    clear h e
    have HN : Hid (∀ W, Calls Tryd.prog 63 #[.agg #[.int .i64 lk, .int .i64 li, .string ls, .int .i64 hk, .int .i64 hi, .string hs, .int .i64 wh, .int .i64 nu]] W fun e w' => e = .returned (.bool (decide (0 < nu))) ∧ ∃ z, w' = more W z) := Lib.hid fun W => nulls_to ⟨⟨lk, li, ls⟩, ⟨hk, hi, hs⟩, wh, nu⟩ _ rfl W
    go_enter Tryd.func44, Tryd.ntmps44
    go_wp2_with (first | (go_at_call 33; refine (isnull_any _ _ _ _).mono ?_; rintro e w' ⟨rfl, x, rfl⟩) | (go_at_call 63; refine (HN.out _).mono ?_; rintro e w' ⟨rfl, x, rfl⟩))
    go_ret
    exact ⟨rfl, by (show Grew _ _; repeat (first | exact Grew.refl _ | refine Grew.alloc ?_ _ | refine Grew.drew ?_ | refine Grew.more ?_ _))⟩
  · have hb : (k == 0) = false := by rw [beq_eq_false_iff_ne]; exact h
    have e : hasS ⟨⟨lk, li, ls⟩, ⟨hk, hi, hs⟩, wh, nu⟩ ⟨k, i, x⟩ = decide (0 < wh ∧ 0 ≤ ordV k i x lk li ls ∧ ordV k i x hk hi hs ≤ 0) := if_neg h
    rw [e]
    clear h e
    generalize hp : ordV k i x lk li ls = p
    generalize hq : ordV k i x hk hi hs = q
    have HP := Lib.hid hp
    have HQ := Lib.hid hq
    clear hp hq
    rcases (by omega : wh ≤ 0 ∨ (0 < wh ∧ p < 0) ∨ (0 < wh ∧ 0 ≤ p ∧ 0 < q) ∨ (0 < wh ∧ 0 ≤ p ∧ q ≤ 0)) with h1 | ⟨h1, h2⟩ | ⟨h1, h2, h3⟩ | ⟨h1, h2, h3⟩
    rotate_right
    · rw [decide_eq_true ⟨h1, h2, h3⟩]
      go_enter Tryd.func44, Tryd.ntmps44
      go_wp2_with (first | (go_at_call 33; refine (isnull_any _ _ _ _).mono ?_; rintro e w' ⟨rfl, x, rfl⟩) | (go_at_call_of 64 (Value.agg #[Value.int .i64 lk, Value.int .i64 li, Value.string ls]); (with_reducible refine (order_to _ _ _ _ _ _ _ HP.out _).mono ?_); rintro e w' ⟨rfl, x1, rfl⟩) | (go_at_call_of 64 (Value.agg #[Value.int .i64 hk, Value.int .i64 hi, Value.string hs]); (with_reducible refine (order_to _ _ _ _ _ _ _ HQ.out _).mono ?_); rintro e w' ⟨rfl, x2, rfl⟩))
      go_ret
      exact ⟨rfl, by (show Grew _ _; repeat (first | exact Grew.refl _ | refine Grew.alloc ?_ _ | refine Grew.drew ?_ | refine Grew.more ?_ _))⟩
    all_goals
      rw [decide_eq_false (by omega)]
      go_enter Tryd.func44, Tryd.ntmps44
      go_wp2_with (first | (go_at_call 33; refine (isnull_any _ _ _ _).mono ?_; rintro e w' ⟨rfl, x, rfl⟩) | (go_at_call_of 64 (Value.agg #[Value.int .i64 lk, Value.int .i64 li, Value.string ls]); (with_reducible refine (order_to _ _ _ _ _ _ _ HP.out _).mono ?_); rintro e w' ⟨rfl, x1, rfl⟩) | (go_at_call_of 64 (Value.agg #[Value.int .i64 hk, Value.int .i64 hi, Value.string hs]); (with_reducible refine (order_to _ _ _ _ _ _ _ HQ.out _).mono ?_); rintro e w' ⟨rfl, x2, rfl⟩))
      go_ret
      exact ⟨by first | rfl | (show Ending.returned (.bool (decide (q ≤ 0))) = _; rw [decide_eq_false (by omega)]), by (show Grew _ _; repeat (first | exact Grew.refl _ | refine Grew.alloc ?_ _ | refine Grew.drew ?_ | refine Grew.more ?_ _))⟩
end Go.Proofs.YtpcbnmpfiepaeaaDoor
