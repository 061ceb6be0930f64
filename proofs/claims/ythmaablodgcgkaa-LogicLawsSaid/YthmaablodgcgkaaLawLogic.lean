/- The laws of layer 2: each returns true. Condition: a text is no longer than a length may be, a slice of numbers lies in memory that is there. -/
import Derived.Test.YthmaablodgcgkaaLogic4
namespace Go.Proofs.Ythmaablodgcgkaa
open Go.RowKit
attribute [local go_sem] more_cell more_frozen more_more more_size more_setCell
attribute [local go_sem ↓] Go.wp_at_zero Go.wp_at_succ

set_option maxHeartbeats 1000000 in
theorem logicTests_walk (op k i : Int) (s : ByteArray) (k' i' : Int) (s' : ByteArray) (hs : s.size ≤ maxLen) (w : World) :
    Gives Try.prog 7 #[.int .i64 op, .agg #[.int .i64 k, .int .i64 i, .string s], .agg #[.int .i64 k', .int .i64 i', .string s']] w (.bool true) := by
  unfold Gives
  have e1 : eqT (cmpB k k') (cmpN k i s k' i' s') = testT 1 (cmpB k k') (cmpN k i s k' i' s') := rfl
  have e2 : ltT (cmpB k k') (cmpN k i s k' i' s') = testT 3 (cmpB k k') (cmpN k i s k' i' s') := rfl
  go_enter Try.func7, Try.ntmps7
  go_wp2_with (first | (go_at_call 29; refine (live2_any _).mono ?_; rintro e w' ⟨rfl, x, rfl⟩))
  · go_ret
    exact ⟨rfl, Grew.more (((Grew.refl w).alloc _).alloc _) _⟩
  · skip
    refine wp_region_more (by kernel_rfl) (by kernel_rfl) ?_
    repeat (go_big_quiet_step ((first | (go_at_call 39; exact (test_any _ _ _ _ _ _ _ _).within) | (go_at_call 40; exact (rtest_any _ _ _ _ _ _ _ hs _).within) | (go_at_call 41; exact (eq_any _ _ _ _ _ _ _).within) | (go_at_call 42; exact (less_any _ _ _ _ _ _ _).within) | (go_at_call 29; exact (live2_any _).within))))
    refine wpQuiet_nil ?_
    rintro _ ⟨z, rfl⟩
    go_wp2
    go_ret
    exact ⟨rfl, Grew.more (((Grew.refl w).alloc _).alloc _) _⟩
theorem rightT_iff (a : Int) : rightT a = (decide (0 ≤ a) && decide (a ≤ 2)) := by
  rw [Bool.eq_iff_iff]
  simp only [rightT, Bool.or_eq_true, beq_iff_eq, Bool.and_eq_true, decide_eq_true_eq]
  omega
set_option maxHeartbeats 1000000 in
theorem logicTables_walk (l : List Int) (A : Option Addr) (c : Nat) (a : Int) (is : Bool) (w : World) (hl : l.length ≤ maxLen) (hr : Row w A (l.map (Value.int .i64))) :
    Gives Try.prog 6 #[.slice A l.length c, .int .i64 a, .bool is] w (.bool true) := by
  unfold Gives
  have HR := Lib.hid hr
  clear hr
  have hl' : (l.length : Int) ≤ 9223372036854775807 := by unfold maxLen at hl; omega
  by_cases h1 : 50 < l.length
  · go_enter Try.func6, Try.ntmps6
    go_wp2_with (first | (go_at_call 29; refine (live2_any _).mono ?_; rintro e w' ⟨rfl, x, rfl⟩))
    go_ret
    exact ⟨rfl, _, rfl⟩
  · have h2 : l.length ≤ 1000000 := by omega
    have e1 := rightT_iff a
    have e2 : ofT true = 1 := rfl
    have e3 : ofT false = 0 := rfl
    cases is
    all_goals
      by_cases h3 : 0 ≤ a
      all_goals
        go_enter Try.func6, Try.ntmps6
        go_wp2_with (first | (go_at_call 29; refine (live2_any _).mono ?_; rintro e w' ⟨rfl, x, rfl⟩) | (go_at_call 30; refine (and_any l A c h2 _ (by first | exact HR.out | exact HR.out.more _)).mono ?_; rintro e w' ⟨rfl, rfl⟩) | (go_at_call 32; refine (or2_any l A c h2 _ (by first | exact HR.out | exact HR.out.more _)).mono ?_; rintro e w' ⟨rfl, rfl⟩) | (go_at_call 31; refine (rand_any l A c h2 _ (by first | exact HR.out | exact HR.out.more _)).mono ?_; rintro e w' ⟨rfl, x, rfl⟩) | (go_at_call 33; refine (ror_any l A c h2 _ (by first | exact HR.out | exact HR.out.more _)).mono ?_; rintro e w' ⟨rfl, x, rfl⟩) | (go_at_call 34; refine (not_any _ _).mono ?_; rintro e w' ⟨rfl, rfl⟩) | (go_at_call 35; refine (rnot_any _ _).mono ?_; rintro e w' ⟨rfl, x, rfl⟩) | (go_at_call 36; refine (of_any _ _).mono ?_; rintro e w' ⟨rfl, rfl⟩) | (go_at_call 37; refine (is_any _ _).mono ?_; rintro e w' ⟨rfl, rfl⟩) | (go_at_call 38; refine (rightT_any _ _).mono ?_; rintro e w' ⟨rfl, rfl⟩))
        go_ret
        exact ⟨rfl, _, rfl⟩
end Go.Proofs.Ythmaablodgcgkaa
