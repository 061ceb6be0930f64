/- Layer 19: the ends of values: what each call returns. Condition: not more than a million values. -/
import Derived.Test.YtpcbnmpfiepaeaaDoorVals
import Derived.Test.YtpcbnmpfiepaeaaDoorKit2
import Derived.Test.YtpcbnmpfiepaeaaDoorHeap
import Derived.Test.YtpcbnmpfiepaeaaDoorFrame4
import Derived.Deep.RegionHeld3
namespace Go.Proofs.YtpcbnmpfiepaeaaDoor
open Go.RowKit
attribute [local go_sem] more_cell more_frozen more_more more_setCell more_of_drew more_of_drewN lt_more le_more past_cell past_cell2 past_frozen past_frozen2 past_setCell past_setCell2 mid_cell mid_frozen mid_setCell
attribute [local go_sem ↓] Go.wp_at_zero Go.wp_at_succ

def sc (s : S) : Array Value := #[.int .i64 s.low.k, .int .i64 s.low.i, .string s.low.s, .int .i64 s.high.k, .int .i64 s.high.i, .string s.high.s, .int .i64 s.whole, .int .i64 s.nulls]
def sa (s : S) : Value := .agg #[.int .i64 s.low.k, .int .i64 s.low.i, .string s.low.s, .int .i64 s.high.k, .int .i64 s.high.i, .string s.high.s, .int .i64 s.whole, .int .i64 s.nulls]
set_option maxHeartbeats 400000 in
theorem of_val (v : V) (w : World) : Gives Tryd.prog 58 #[.agg #[.int .i64 v.k, .int .i64 v.i, .string v.s]] w (sa (ofS v)) := by
  unfold Gives
  obtain ⟨k, i, s⟩ := v
  by_cases h : k = 0
  · have hb : (k == 0) = true := by rw [beq_iff_eq]; exact h
    have e : sa (ofS ⟨k, i, s⟩) = .agg #[.int .i64 0, .int .i64 0, .string ⟨#[]⟩, .int .i64 0, .int .i64 0, .string ⟨#[]⟩, .int .i64 0, .int .i64 1] := by unfold ofS; rw [if_pos h]; rfl
    rw [e]
    clear h
    go_enter Tryd.func58, Tryd.ntmps58
    go_wp2_with (first | (go_at_call 33; refine (isnull_any _ _ _ _).mono ?_; rintro e w' ⟨rfl, x, rfl⟩))
    exact bodyPost_ret (v := .agg #[.int .i64 0, .int .i64 0, .string ⟨#[]⟩, .int .i64 0, .int .i64 0, .string ⟨#[]⟩, .int .i64 0, .int .i64 1]) (by simp [results, Tryd.results58, go_sem]; try rfl) rfl ⟨rfl, by (show Grew _ _; repeat (first | exact Grew.refl _ | refine Grew.alloc ?_ _ | refine Grew.drew ?_ | refine Grew.more ?_ _))⟩
  · have hb : (k == 0) = false := by rw [beq_eq_false_iff_ne]; exact h
    have e : sa (ofS ⟨k, i, s⟩) = .agg #[.int .i64 k, .int .i64 i, .string s, .int .i64 k, .int .i64 i, .string s, .int .i64 1, .int .i64 0] := by unfold ofS; rw [if_neg h]; rfl
    rw [e]
    clear h
    go_enter Tryd.func58, Tryd.ntmps58
    go_wp2_with (first | (go_at_call 33; refine (isnull_any _ _ _ _).mono ?_; rintro e w' ⟨rfl, x, rfl⟩))
    exact bodyPost_ret (v := .agg #[.int .i64 k, .int .i64 i, .string s, .int .i64 k, .int .i64 i, .string s, .int .i64 1, .int .i64 0]) (by simp [results, Tryd.results58, go_sem]; try rfl) rfl ⟨rfl, by (show Grew _ _; repeat (first | exact Grew.refl _ | refine Grew.alloc ?_ _ | refine Grew.drew ?_ | refine Grew.more ?_ _))⟩
theorem order_to (k i : Int) (s : ByteArray) (k' i' : Int) (s' : ByteArray) (x : Int) (hx : ordV k i s k' i' s' = x) (w : World) :
    Calls Tryd.prog 64 #[.agg #[.int .i64 k, .int .i64 i, .string s], .agg #[.int .i64 k', .int .i64 i', .string s']] w fun e w' => e = .returned (.int .i64 x) ∧ ∃ z, w' = more w z := by
  subst hx
  exact order_any _ _ _ _ _ _ _
/-- A span is of not too many values. -/
def fewS (s : S) : Prop := 0 ≤ s.whole ∧ s.whole ≤ 1000000 ∧ 0 ≤ s.nulls ∧ s.nulls ≤ 1000000
set_option maxHeartbeats 2000000 in
theorem union_val (a b : S) (fa : fewS a) (fb : fewS b) (w : World) : Gives Tryd.prog 57 #[sa a, sa b] w (sa (unionS a b)) := by
  unfold Gives
  obtain ⟨⟨lk, li, ls⟩, ⟨hk, hi, hs⟩, wh, nu⟩ := a
  obtain ⟨⟨lk', li', ls'⟩, ⟨hk', hi', hs'⟩, wh', nu'⟩ := b
  unfold fewS at fa fb
  simp only at fa fb
  obtain ⟨a1, a2, a3, a4⟩ := fa
  obtain ⟨b1, b2, b3, b4⟩ := fb
  show Gives Tryd.prog 57 #[.agg #[.int .i64 lk, .int .i64 li, .string ls, .int .i64 hk, .int .i64 hi, .string hs, .int .i64 wh, .int .i64 nu], .agg #[.int .i64 lk', .int .i64 li', .string ls', .int .i64 hk', .int .i64 hi', .string hs', .int .i64 wh', .int .i64 nu']] w _
  by_cases h0 : wh = 0
  · have hb : (wh == 0) = true := by rw [beq_iff_eq]; exact h0
    have e : sa (unionS ⟨⟨lk, li, ls⟩, ⟨hk, hi, hs⟩, wh, nu⟩ ⟨⟨lk', li', ls'⟩, ⟨hk', hi', hs'⟩, wh', nu'⟩) = .agg #[.int .i64 lk', .int .i64 li', .string ls', .int .i64 hk', .int .i64 hi', .string hs', .int .i64 (wh + wh'), .int .i64 (nu + nu')] := by
      unfold unionS
      simp only
      rw [if_pos (Or.inl h0), if_pos (Or.inl h0)]
      rfl
    rw [e]
    clear h0 e
    unfold Gives
    go_enter Tryd.func57, Tryd.ntmps57
    go_wp2
    exact bodyPost_ret (v := .agg #[.int .i64 lk', .int .i64 li', .string ls', .int .i64 hk', .int .i64 hi', .string hs', .int .i64 (wh + wh'), .int .i64 (nu + nu')]) (by simp [results, Tryd.results57, go_sem]) rfl ⟨rfl, by (show Grew _ _; repeat (first | exact Grew.refl _ | refine Grew.alloc ?_ _ | refine Grew.drew ?_ | refine Grew.more ?_ _))⟩
  · have hb : (wh == 0) = false := by rw [beq_eq_false_iff_ne]; exact h0
    by_cases h1 : 0 < wh'
    · have e0 : unionS ⟨⟨lk, li, ls⟩, ⟨hk, hi, hs⟩, wh, nu⟩ ⟨⟨lk', li', ls'⟩, ⟨hk', hi', hs'⟩, wh', nu'⟩ = ⟨if ordV lk' li' ls' lk li ls < 0 then ⟨lk', li', ls'⟩ else ⟨lk, li, ls⟩, if 0 < ordV hk' hi' hs' hk hi hs then ⟨hk', hi', hs'⟩ else ⟨hk, hi, hs⟩, wh + wh', nu + nu'⟩ := by
        unfold unionS ord
        simp only [h0, h1, false_or, true_and]
      rw [e0]
      clear h0 e0
      generalize hx : ordV lk' li' ls' lk li ls = x
      generalize hy : ordV hk' hi' hs' hk hi hs = y
      have HX := Lib.hid hx
      have HY := Lib.hid hy
      clear hx hy
      by_cases hx0 : x < 0 <;> by_cases hy0 : 0 < y
      · rw [if_pos hx0, if_pos hy0]
        show Gives _ _ _ _ (.agg #[.int .i64 lk', .int .i64 li', .string ls', .int .i64 hk', .int .i64 hi', .string hs', .int .i64 (wh + wh'), .int .i64 (nu + nu')])
        unfold Gives
        go_enter Tryd.func57, Tryd.ntmps57
        go_wp2_with (first | (go_at_call_of 64 (Value.agg #[Value.int .i64 lk', Value.int .i64 li', Value.string ls']); (with_reducible refine (order_to _ _ _ _ _ _ _ HX.out _).mono ?_); rintro e w' ⟨rfl, x1, rfl⟩) | (go_at_call_of 64 (Value.agg #[Value.int .i64 hk', Value.int .i64 hi', Value.string hs']); (with_reducible refine (order_to _ _ _ _ _ _ _ HY.out _).mono ?_); rintro e w' ⟨rfl, x2, rfl⟩))
        exact bodyPost_ret (v := .agg #[.int .i64 lk', .int .i64 li', .string ls', .int .i64 hk', .int .i64 hi', .string hs', .int .i64 (wh + wh'), .int .i64 (nu + nu')]) (by simp [results, Tryd.results57, go_sem]) rfl ⟨rfl, by (show Grew _ _; repeat (first | exact Grew.refl _ | refine Grew.alloc ?_ _ | refine Grew.drew ?_ | refine Grew.more ?_ _))⟩
      · rw [if_pos hx0, if_neg hy0]
        show Gives _ _ _ _ (.agg #[.int .i64 lk', .int .i64 li', .string ls', .int .i64 hk, .int .i64 hi, .string hs, .int .i64 (wh + wh'), .int .i64 (nu + nu')])
        unfold Gives
        go_enter Tryd.func57, Tryd.ntmps57
        go_wp2_with (first | (go_at_call_of 64 (Value.agg #[Value.int .i64 lk', Value.int .i64 li', Value.string ls']); (with_reducible refine (order_to _ _ _ _ _ _ _ HX.out _).mono ?_); rintro e w' ⟨rfl, x1, rfl⟩) | (go_at_call_of 64 (Value.agg #[Value.int .i64 hk', Value.int .i64 hi', Value.string hs']); (with_reducible refine (order_to _ _ _ _ _ _ _ HY.out _).mono ?_); rintro e w' ⟨rfl, x2, rfl⟩))
        exact bodyPost_ret (v := .agg #[.int .i64 lk', .int .i64 li', .string ls', .int .i64 hk, .int .i64 hi, .string hs, .int .i64 (wh + wh'), .int .i64 (nu + nu')]) (by simp [results, Tryd.results57, go_sem]) rfl ⟨rfl, by (show Grew _ _; repeat (first | exact Grew.refl _ | refine Grew.alloc ?_ _ | refine Grew.drew ?_ | refine Grew.more ?_ _))⟩
      · rw [if_neg hx0, if_pos hy0]
        show Gives _ _ _ _ (.agg #[.int .i64 lk, .int .i64 li, .string ls, .int .i64 hk', .int .i64 hi', .string hs', .int .i64 (wh + wh'), .int .i64 (nu + nu')])
        unfold Gives
        go_enter Tryd.func57, Tryd.ntmps57
        go_wp2_with (first | (go_at_call_of 64 (Value.agg #[Value.int .i64 lk', Value.int .i64 li', Value.string ls']); (with_reducible refine (order_to _ _ _ _ _ _ _ HX.out _).mono ?_); rintro e w' ⟨rfl, x1, rfl⟩) | (go_at_call_of 64 (Value.agg #[Value.int .i64 hk', Value.int .i64 hi', Value.string hs']); (with_reducible refine (order_to _ _ _ _ _ _ _ HY.out _).mono ?_); rintro e w' ⟨rfl, x2, rfl⟩))
        exact bodyPost_ret (v := .agg #[.int .i64 lk, .int .i64 li, .string ls, .int .i64 hk', .int .i64 hi', .string hs', .int .i64 (wh + wh'), .int .i64 (nu + nu')]) (by simp [results, Tryd.results57, go_sem]) rfl ⟨rfl, by (show Grew _ _; repeat (first | exact Grew.refl _ | refine Grew.alloc ?_ _ | refine Grew.drew ?_ | refine Grew.more ?_ _))⟩
      · rw [if_neg hx0, if_neg hy0]
        show Gives _ _ _ _ (.agg #[.int .i64 lk, .int .i64 li, .string ls, .int .i64 hk, .int .i64 hi, .string hs, .int .i64 (wh + wh'), .int .i64 (nu + nu')])
        unfold Gives
        go_enter Tryd.func57, Tryd.ntmps57
        go_wp2_with (first | (go_at_call_of 64 (Value.agg #[Value.int .i64 lk', Value.int .i64 li', Value.string ls']); (with_reducible refine (order_to _ _ _ _ _ _ _ HX.out _).mono ?_); rintro e w' ⟨rfl, x1, rfl⟩) | (go_at_call_of 64 (Value.agg #[Value.int .i64 hk', Value.int .i64 hi', Value.string hs']); (with_reducible refine (order_to _ _ _ _ _ _ _ HY.out _).mono ?_); rintro e w' ⟨rfl, x2, rfl⟩))
        exact bodyPost_ret (v := .agg #[.int .i64 lk, .int .i64 li, .string ls, .int .i64 hk, .int .i64 hi, .string hs, .int .i64 (wh + wh'), .int .i64 (nu + nu')]) (by simp [results, Tryd.results57, go_sem]) rfl ⟨rfl, by (show Grew _ _; repeat (first | exact Grew.refl _ | refine Grew.alloc ?_ _ | refine Grew.drew ?_ | refine Grew.more ?_ _))⟩
    · have e0 : unionS ⟨⟨lk, li, ls⟩, ⟨hk, hi, hs⟩, wh, nu⟩ ⟨⟨lk', li', ls'⟩, ⟨hk', hi', hs'⟩, wh', nu'⟩ = ⟨⟨lk, li, ls⟩, ⟨hk, hi, hs⟩, wh + wh', nu + nu'⟩ := by
        unfold unionS
        simp only [h0, h1, false_or, false_and, if_false]
      rw [e0]
      clear h0 e0
      · skip
        show Gives _ _ _ _ (.agg #[.int .i64 lk, .int .i64 li, .string ls, .int .i64 hk, .int .i64 hi, .string hs, .int .i64 (wh + wh'), .int .i64 (nu + nu')])
        unfold Gives
        go_enter Tryd.func57, Tryd.ntmps57
        go_wp2
        exact bodyPost_ret (v := .agg #[.int .i64 lk, .int .i64 li, .string ls, .int .i64 hk, .int .i64 hi, .string hs, .int .i64 (wh + wh'), .int .i64 (nu + nu')]) (by simp [results, Tryd.results57, go_sem]) rfl ⟨rfl, by (show Grew _ _; repeat (first | exact Grew.refl _ | refine Grew.alloc ?_ _ | refine Grew.drew ?_ | refine Grew.more ?_ _))⟩
theorem union_to (a b r : S) (fa : fewS a) (fb : fewS b) (hr : unionS a b = r) (w : World) : Gives Tryd.prog 57 #[sa a, sa b] w (sa r) := by
  subst hr
  exact union_val a b fa fb w
theorem of_to (v : V) (r : S) (hr : ofS v = r) (w : World) : Gives Tryd.prog 58 #[.agg #[.int .i64 v.k, .int .i64 v.i, .string v.s]] w (sa r) := by
  subst hr
  exact of_val v w
theorem ofS_few (v : V) : fewS (ofS v) := by unfold ofS fewS; split <;> simp
end Go.Proofs.YtpcbnmpfiepaeaaDoor
