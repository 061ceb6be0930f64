/- Layer 2: the document's own test of two values; the walks of the laws. Condition: a text is no longer than a length may be, a slice of numbers lies in memory that is there. -/
import Derived.Test.YtddambfniaiogaaLogic3
namespace Go.Proofs.Ytddambfniaiogaa
open Go.RowKit
attribute [local go_sem] more_cell more_frozen more_more more_size more_setCell
attribute [local go_sem ↓] Go.wp_at_zero Go.wp_at_succ

theorem and_pair (a b : Int) (W : World) (B : Nat) (hB : B = W.heap.size) : Calls Try.prog 157 #[.slice (some ⟨B, 0, none⟩) 2 2] (W.alloc (.cells #[.int .i64 a, .int .i64 b] 3)) fun e w' => e = .returned (.int .i64 (andL [a, b])) ∧ w' = W.alloc (.cells #[.int .i64 a, .int .i64 b] 3) :=
  and_any [a, b] _ _ (by show (2 : Nat) ≤ 1000000; omega) _ (row_two _ _ _ _ (by rw [World.size_alloc]; omega) (World.cell?_alloc_at _ _ _ _ hB) (World.cell?_alloc_at _ _ _ _ hB))
theorem or_pair (a b : Int) (W : World) (B : Nat) (hB : B = W.heap.size) : Calls Try.prog 158 #[.slice (some ⟨B, 0, none⟩) 2 2] (W.alloc (.cells #[.int .i64 a, .int .i64 b] 3)) fun e w' => e = .returned (.int .i64 (orL [a, b])) ∧ w' = W.alloc (.cells #[.int .i64 a, .int .i64 b] 3) :=
  or2_any [a, b] _ _ (by show (2 : Nat) ≤ 1000000; omega) _ (row_two _ _ _ _ (by rw [World.size_alloc]; omega) (World.cell?_alloc_at _ _ _ _ hB) (World.cell?_alloc_at _ _ _ _ hB))
theorem and_none (w : World) : Calls Try.prog 157 #[.slice none 0 0] w fun e w' => e = .returned (.int .i64 1) ∧ w' = w := and_any [] none 0 (by show (0 : Nat) ≤ 1000000; omega) w (Or.inl rfl)
theorem or_none (w : World) : Calls Try.prog 158 #[.slice none 0 0] w fun e w' => e = .returned (.int .i64 0) ∧ w' = w := or2_any [] none 0 (by show (0 : Nat) ≤ 1000000; omega) w (Or.inl rfl)
set_option maxHeartbeats 2000000 in
theorem rtest_any (op k i : Int) (s : ByteArray) (k' i' : Int) (s' : ByteArray) (hs : s.size ≤ maxLen) (w : World) :
    Gives Try.prog 92 #[.int .i64 op, .agg #[.int .i64 k, .int .i64 i, .string s], .agg #[.int .i64 k', .int .i64 i', .string s']] w (.int .i64 (testT op (cmpB k k') (cmpN k i s k' i' s'))) := by
  unfold Gives
  by_cases h1 : op < 1
  · have e1 : testT op (cmpB k k') (cmpN k i s k' i' s') = 2 := by unfold testT; (repeat rw [if_neg (by omega)])
    rw [e1]
    cases hb : cmpB k k'
    all_goals
      go_enter Try.func92, Try.ntmps92
      go_wp2_with (first | (go_at_call 153; refine (rcmp_any _ _ _ _ _ _ hs _).mono ?_; rintro e w' ⟨rfl, x, rfl⟩))
      go_ret
      exact ⟨rfl, Grew.more (((Grew.refl w).alloc _).alloc _) _⟩
  by_cases h6 : 6 < op
  · have e1 : testT op (cmpB k k') (cmpN k i s k' i' s') = 2 := by unfold testT; (repeat rw [if_neg (by omega)])
    rw [e1]
    cases hb : cmpB k k'
    all_goals
      go_enter Try.func92, Try.ntmps92
      go_wp2_with (first | (go_at_call 153; refine (rcmp_any _ _ _ _ _ _ hs _).mono ?_; rintro e w' ⟨rfl, x, rfl⟩))
      go_ret
      exact ⟨rfl, Grew.more (((Grew.refl w).alloc _).alloc _) _⟩
  have h3 := cmpN_three k i s k' i' s'
  generalize hc : cmpN k i s k' i' s' = c at h3 ⊢
  cases hb : cmpB k k'
  · have e1 : testT op false c = 2 := by
      have h2 : op = 1 ∨ op = 2 ∨ op = 3 ∨ op = 4 ∨ op = 5 ∨ op = 6 := by omega
      rcases h2 with rfl | rfl | rfl | rfl | rfl | rfl <;> rfl
    rw [e1]
    clear h3 e1
    go_enter Try.func92, Try.ntmps92
    go_wp2_with (first | (go_at_call 153; refine (rcmp_any _ _ _ _ _ _ hs _).mono ?_; rintro e w' ⟨rfl, x, rfl⟩))
    go_ret
    exact ⟨rfl, Grew.more (((Grew.refl w).alloc _).alloc _) _⟩
  · have h2 : op = 1 ∨ op = 2 ∨ op = 3 ∨ op = 4 ∨ op = 5 ∨ op = 6 := by omega
    clear h1 h6
    rcases h3 with rfl | rfl | rfl <;> rcases h2 with rfl | rfl | rfl | rfl | rfl | rfl
    all_goals
      go_enter Try.func92, Try.ntmps92
      go_wp2_with (first | (go_at_call 153; refine (rcmp_any _ _ _ _ _ _ hs _).mono ?_; rintro e w' ⟨rfl, x, rfl⟩))
      go_ret
      exact ⟨rfl, by show Grew w _; repeat (first | exact Grew.refl _ | apply Grew.more | apply Grew.alloc)⟩
end Go.Proofs.Ytddambfniaiogaa
