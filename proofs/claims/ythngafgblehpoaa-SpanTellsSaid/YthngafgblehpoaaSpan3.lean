/- Layer 19: what a span tells; the size of what is asked; the page's example. Condition: texts that fit into memory. -/
import Derived.Test.YthngafgblehpoaaSpan2
namespace Go.Proofs.Ythngafgblehpoaa
open Go.RowKit
attribute [local go_sem] more_cell more_frozen more_more more_setCell more_of_drew more_of_drewN lt_more le_more past_cell past_cell2 past_frozen past_frozen2 past_setCell past_setCell2 mid_cell mid_frozen mid_setCell
attribute [local go_sem ↓] Go.wp_at_zero Go.wp_at_succ

theorem nulls_to (s : S) (t : Bool) (ht : decide (0 < s.nulls) = t) (w : World) : Calls Try.prog 35 #[sa s] w fun e w' => e = .returned (.bool t) ∧ ∃ z, w' = more w z := by
  subst ht
  obtain ⟨⟨lk, li, ls⟩, ⟨hk, hi, hs⟩, wh, nu⟩ := s
  show Calls Try.prog 35 #[.agg #[.int .i64 lk, .int .i64 li, .string ls, .int .i64 hk, .int .i64 hi, .string hs, .int .i64 wh, .int .i64 nu]] w _
  go_enter Try.func35, Try.ntmps35
  go_wp2
  go_ret
  exact ⟨rfl, by (show Grew _ _; repeat (first | exact Grew.refl _ | refine Grew.alloc ?_ _ | refine Grew.drew ?_ | refine Grew.more ?_ _))⟩
theorem count_val (s : S) (fs : fewS s) (w : World) : Gives Try.prog 38 #[sa s] w (.int .i64 (s.whole + s.nulls)) := by
  unfold Gives
  obtain ⟨⟨lk, li, ls⟩, ⟨hk, hi, hs⟩, wh, nu⟩ := s
  unfold fewS at fs
  simp only at fs
  obtain ⟨a1, a2, a3, a4⟩ := fs
  show Calls Try.prog 38 #[.agg #[.int .i64 lk, .int .i64 li, .string ls, .int .i64 hk, .int .i64 hi, .string hs, .int .i64 wh, .int .i64 nu]] w _
  go_enter Try.func38, Try.ntmps38
  go_wp2
  go_ret
  exact ⟨rfl, by (show Grew _ _; repeat (first | exact Grew.refl _ | refine Grew.alloc ?_ _ | refine Grew.drew ?_ | refine Grew.more ?_ _))⟩
theorem low_val (s : S) (w : World) : Gives Try.prog 33 #[sa s] w (.tuple #[va s.low, .bool (decide (0 < s.whole))]) := by
  unfold Gives
  obtain ⟨⟨lk, li, ls⟩, ⟨hk, hi, hs⟩, wh, nu⟩ := s
  show Calls Try.prog 33 #[.agg #[.int .i64 lk, .int .i64 li, .string ls, .int .i64 hk, .int .i64 hi, .string hs, .int .i64 wh, .int .i64 nu]] w _
  go_enter Try.func33, Try.ntmps33
  go_wp2
  go_region
  all_goals
    go_wp2
    exact bodyPost_ret (v := .tuple #[.agg #[.int .i64 lk, .int .i64 li, .string ls], .bool (decide (0 < wh))]) (by simp [results, Try.results33, go_sem]) rfl ⟨rfl, by (show Grew _ _; repeat (first | exact Grew.refl _ | refine Grew.alloc ?_ _ | refine Grew.drew ?_ | refine Grew.more ?_ _))⟩
theorem high_val (s : S) (w : World) : Gives Try.prog 34 #[sa s] w (.tuple #[va s.high, .bool (decide (0 < s.whole))]) := by
  unfold Gives
  obtain ⟨⟨lk, li, ls⟩, ⟨hk, hi, hs⟩, wh, nu⟩ := s
  show Calls Try.prog 34 #[.agg #[.int .i64 lk, .int .i64 li, .string ls, .int .i64 hk, .int .i64 hi, .string hs, .int .i64 wh, .int .i64 nu]] w _
  go_enter Try.func34, Try.ntmps34
  go_wp2
  go_region
  all_goals
    go_wp2
    exact bodyPost_ret (v := .tuple #[.agg #[.int .i64 hk, .int .i64 hi, .string hs], .bool (decide (0 < wh))]) (by simp [results, Try.results34, go_sem]) rfl ⟨rfl, by (show Grew _ _; repeat (first | exact Grew.refl _ | refine Grew.alloc ?_ _ | refine Grew.drew ?_ | refine Grew.more ?_ _))⟩
set_option maxHeartbeats 2000000 in
theorem has_to (s : S) (v : V) (t : Bool) (ht : hasS s v = t) (w : World) : Calls Try.prog 36 #[sa s, va v] w fun e w' => e = .returned (.bool t) ∧ ∃ z, w' = more w z := by
  subst ht
  obtain ⟨⟨lk, li, ls⟩, ⟨hk, hi, hs⟩, wh, nu⟩ := s
  obtain ⟨k, i, x⟩ := v
  show Calls Try.prog 36 #[.agg #[.int .i64 lk, .int .i64 li, .string ls, .int .i64 hk, .int .i64 hi, .string hs, .int .i64 wh, .int .i64 nu], .agg #[.int .i64 k, .int .i64 i, .string x]] w _
  by_cases h : k = 0
  · have hb : (k == 0) = true := by rw [beq_iff_eq]; exact h
    have e : hasS ⟨⟨lk, li, ls⟩, ⟨hk, hi, hs⟩, wh, nu⟩ ⟨k, i, x⟩ = decide (0 < nu) := if_pos h
    rw [e]
    clear h e
    have HN : Hid (∀ W, Calls Try.prog 35 #[.agg #[.int .i64 lk, .int .i64 li, .string ls, .int .i64 hk, .int .i64 hi, .string hs, .int .i64 wh, .int .i64 nu]] W fun e w' => e = .returned (.bool (decide (0 < nu))) ∧ ∃ z, w' = more W z) := Lib.hid fun W => nulls_to ⟨⟨lk, li, ls⟩, ⟨hk, hi, hs⟩, wh, nu⟩ _ rfl W
    go_enter Try.func36, Try.ntmps36
    go_wp2_with (first | (go_at_call 92; refine (isnull_any _ _ _ _).mono ?_; rintro e w' ⟨rfl, x, rfl⟩) | (go_at_call 35; refine (HN.out _).mono ?_; rintro e w' ⟨rfl, x, rfl⟩))
    go_ret
    exact ⟨rfl, by (show Grew _ _; repeat (first | exact Grew.refl _ | refine Grew.alloc ?_ _ | refine Grew.drew ?_ | refine Grew.more ?_ _))⟩
  · have hb : (k == 0) = false := by rw [beq_eq_false_iff_ne]; exact h
    have e : hasS ⟨⟨lk, li, ls⟩, ⟨hk, hi, hs⟩, wh, nu⟩ ⟨k, i, x⟩ = decide (0 < wh ∧ 0 ≤ ordV k i x lk li ls ∧ ordV k i x hk hi hs ≤ 0) := if_neg h
    rw [e]
    clear h e
    generalize hp : ordV k i x lk li ls = p
    generalize hq : ordV k i x hk hi hs = q
    have HP := Lib.hid hp
    have HQ := Lib.hid hq
    clear hp hq
    rcases (by omega : wh ≤ 0 ∨ (0 < wh ∧ p < 0) ∨ (0 < wh ∧ 0 ≤ p ∧ 0 < q) ∨ (0 < wh ∧ 0 ≤ p ∧ q ≤ 0)) with h1 | ⟨h1, h2⟩ | ⟨h1, h2, h3⟩ | ⟨h1, h2, h3⟩
    rotate_right
    · rw [decide_eq_true ⟨h1, h2, h3⟩]
      go_enter Try.func36, Try.ntmps36
      go_wp2_with (first | (go_at_call 92; refine (isnull_any _ _ _ _).mono ?_; rintro e w' ⟨rfl, x, rfl⟩) | (go_at_call_of 91 (Value.agg #[Value.int .i64 lk, Value.int .i64 li, Value.string ls]); (with_reducible refine (order_to _ _ _ _ _ _ _ HP.out _).mono ?_); rintro e w' ⟨rfl, x1, rfl⟩) | (go_at_call_of 91 (Value.agg #[Value.int .i64 hk, Value.int .i64 hi, Value.string hs]); (with_reducible refine (order_to _ _ _ _ _ _ _ HQ.out _).mono ?_); rintro e w' ⟨rfl, x2, rfl⟩))
      go_ret
      exact ⟨rfl, by (show Grew _ _; repeat (first | exact Grew.refl _ | refine Grew.alloc ?_ _ | refine Grew.drew ?_ | refine Grew.more ?_ _))⟩
    all_goals
      rw [decide_eq_false (by omega)]
      go_enter Try.func36, Try.ntmps36
      go_wp2_with (first | (go_at_call 92; refine (isnull_any _ _ _ _).mono ?_; rintro e w' ⟨rfl, x, rfl⟩) | (go_at_call_of 91 (Value.agg #[Value.int .i64 lk, Value.int .i64 li, Value.string ls]); (with_reducible refine (order_to _ _ _ _ _ _ _ HP.out _).mono ?_); rintro e w' ⟨rfl, x1, rfl⟩) | (go_at_call_of 91 (Value.agg #[Value.int .i64 hk, Value.int .i64 hi, Value.string hs]); (with_reducible refine (order_to _ _ _ _ _ _ _ HQ.out _).mono ?_); rintro e w' ⟨rfl, x2, rfl⟩))
      go_ret
      exact ⟨by first | rfl | (show Ending.returned (.bool (decide (q ≤ 0))) = _; rw [decide_eq_false (by omega)]), by (show Grew _ _; repeat (first | exact Grew.refl _ | refine Grew.alloc ?_ _ | refine Grew.drew ?_ | refine Grew.more ?_ _))⟩
/-- Rows of values that lie in memory: each one's address, its capacity, its values. -/
structure Rw where
  A : Option Addr
  c : Nat
  l : List V
def Rws (w : World) (A : Option Addr) (rs : List Rw) : Prop := Row w A (rs.map fun r => .slice r.A r.l.length r.c) ∧ ∀ r ∈ rs, VRow w r.A r.l
def MuchV (rs : List Rw) (w : World) (e : Ending) (w' : World) : Prop := ∃ t, e = .returned (.bool t) ∧ w' = w ∧ (t = false → ∀ r ∈ rs, r.l.length ≤ 40)
def MuchAt (rs : List Rw) (n i : Value) : Prop := ∃ (j : Nat) (m : Int), j ≤ rs.length ∧ j ≤ 60 ∧ i = .int .i64 j ∧ n = .int .i64 m ∧ ∀ r ∈ rs.take j, r.l.length ≤ 40
def MuchIn (len : Nat) (n k : Value) : Prop := ∃ (j : Nat) (m : Int), j ≤ len ∧ k = .int .i64 j ∧ n = .int .i64 m
set_option maxHeartbeats 2000000 in
theorem much_val (rs : List Rw) (A : Option Addr) (c : Nat) (hl : rs.length ≤ 1000000) (w : World) (hr : Rws w A rs) (hm : ∀ r ∈ rs, r.l.length ≤ maxLen) : Calls Try.prog 28 #[.slice A rs.length c] w (MuchV rs w) := by
  have HR := Lib.hid hr
  have HM := Lib.hid hm
  clear hr hm
  go_enter Try.func28, Try.ntmps28
  go_wp2
  go_loop [3, 4] (fun n i => MuchAt rs n i) (fun _ i => rs.length - (intOf i).toNat)
  case atStart => exact ⟨0, 0, Nat.zero_le _, Nat.zero_le _, rfl, rfl, by simp⟩
  case round =>
    obtain ⟨j, m, hj, hj60, rfl, rfl, hall⟩ := hrel
    have HA := Lib.hid hall
    clear hall
    rcases (by omega : (j < rs.length ∧ j < 60) ∨ (j < rs.length ∧ j = 60) ∨ j = rs.length) with ⟨h1, h2⟩ | ⟨h1, h2⟩ | h1
    · obtain ⟨b, o, rfl, hb, c0⟩ := HR.out.1.at_ (k := j) (by simpa using h1)
      simp only [List.getElem_map] at c0
      have hmem : rs[j] ∈ rs := List.getElem_mem h1
      have HV := Lib.hid (HR.out.2 _ hmem)
      have hlen := HM.out _ hmem
      have HN : Hid (∀ r ∈ rs.take (j + 1), r.l.length ≤ 40 ∨ r = rs[j]) := Lib.hid (by
        intro r hr
        rw [List.take_succ_eq_append_getElem h1] at hr
        rcases List.mem_append.1 hr with h | h
        · exact Or.inl (HA.out r h)
        · exact Or.inr (by simpa using h))
      clear hmem
      generalize rs[j] = q at *
      obtain ⟨B, d, l⟩ := q
      simp only at *
      have hl' : (l.length : Int) ≤ 9223372036854775807 := by unfold maxLen at hlen; omega
      clear hlen
      by_cases hbig : 40 < l.length
      · go_wp2
        go_ret
        exact ⟨true, rfl, rfl, fun h => by cases h⟩
      · go_wp2
        go_loop [3, 5] (fun n k => MuchIn l.length n k) (fun _ k => l.length - (intOf k).toNat)
        case atStart => exact ⟨0, m, Nat.zero_le _, rfl, rfl⟩
        case round =>
          obtain ⟨k, m', hk, rfl, rfl⟩ := hrel
          by_cases h3 : k < l.length
          · obtain ⟨b', o', rfl⟩ := vrow_some HV.out h3
            obtain ⟨hb', _, _, c2⟩ := vrow_cells HV.out h3 rfl
            generalize l[k] = v at *
            go_wp2
            refine ⟨⟨k + 1, _, by omega, by go_num, rfl⟩, by simp only [intOf]; omega⟩
          · obtain rfl : k = l.length := by omega
            by_cases h4 : 2000 < m'
            · go_wp2
              go_ret
              exact ⟨true, rfl, rfl, fun h => by cases h⟩
            · go_wp2
              refine ⟨⟨j + 1, m', by omega, by omega, by go_num, rfl, fun r hr => ?_⟩, by simp only [intOf]; omega⟩
              rcases HN.out r hr with h | h
              · exact h
              · subst h; show l.length ≤ 40; omega
    · subst h2
      go_wp2
      go_ret
      exact ⟨_, rfl, rfl, fun h => by have h5 := of_decide_eq_false h; omega⟩
    · subst h1
      have HE : Hid (∀ r ∈ rs, r.l.length ≤ 40) := Lib.hid (by have := HA.out; rwa [List.take_length] at this)
      go_wp2
      go_ret
      exact ⟨_, rfl, rfl, fun _ => HE.out⟩
end Go.Proofs.Ythngafgblehpoaa
