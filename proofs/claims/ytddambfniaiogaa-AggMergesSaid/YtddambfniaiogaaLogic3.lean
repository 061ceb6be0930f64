/- Layer 2: two values tested by a sign; the laws' walks. Condition: a text is no longer than a length may be, a slice of numbers lies in memory that is there. -/
import Derived.Test.YtddambfniaiogaaLogic2
namespace Go.Proofs.Ytddambfniaiogaa
open Go.RowKit
attribute [local go_sem] more_cell more_frozen more_more more_size more_setCell
attribute [local go_sem ↓] Go.wp_at_zero Go.wp_at_succ

theorem ordI_three (a b : Int) : ordI a b = -1 ∨ ordI a b = 0 ∨ ordI a b = 1 := by
  unfold ordI
  split
  · exact Or.inl rfl
  · split
    · exact Or.inr (Or.inr rfl)
    · exact Or.inr (Or.inl rfl)
theorem ordI_swap (a b : Int) : ordI b a = -ordI a b := by
  unfold ordI
  split <;> split <;> (try split) <;> omega
theorem cmp_three : ∀ a b : List UInt8, Lib.compareBytes a b = -1 ∨ Lib.compareBytes a b = 0 ∨ Lib.compareBytes a b = 1
  | [], [] => by simp [Lib.compareBytes]
  | [], _ :: _ => by simp [Lib.compareBytes]
  | _ :: _, [] => by simp [Lib.compareBytes]
  | a :: x, b :: y => by
    rw [cmp_cons]
    split
    · exact Or.inl rfl
    · split
      · exact Or.inr (Or.inr rfl)
      · exact cmp_three x y
theorem cmp_swap : ∀ a b : List UInt8, Lib.compareBytes b a = -Lib.compareBytes a b
  | [], [] => by simp [Lib.compareBytes]
  | [], _ :: _ => by simp [Lib.compareBytes]
  | _ :: _, [] => by simp [Lib.compareBytes]
  | a :: x, b :: y => by
    rw [cmp_cons, cmp_cons, cmp_swap x y]
    by_cases h1 : a < b
    · have h2 : ¬ b < a := by rw [UInt8.lt_iff_toNat_lt] at h1 ⊢; omega
      rw [if_neg h2, if_pos h1, if_pos h1]
      rfl
    · by_cases h2 : b < a
      · rw [if_pos h2, if_neg h1, if_pos h2]
      · rw [if_neg h2, if_neg h1, if_neg h1, if_neg h2]
theorem ordV_three (k i : Int) (s : ByteArray) (k' i' : Int) (s' : ByteArray) : ordV k i s k' i' s' = -1 ∨ ordV k i s k' i' s' = 0 ∨ ordV k i s k' i' s' = 1 := by
  unfold ordV
  split
  · split
    · exact cmp_three _ _
    · exact ordI_three _ _
  · exact ordI_three _ _
theorem ordV_swap (k i : Int) (s : ByteArray) (k' i' : Int) (s' : ByteArray) : ordV k' i' s' k i s = -ordV k i s k' i' s' := by
  unfold ordV
  by_cases hk : k = k'
  · subst hk
    rw [if_pos rfl, if_pos rfl]
    by_cases hi : i = i'
    · subst hi
      rw [if_pos rfl, if_pos rfl]
      exact cmp_swap _ _
    · rw [if_neg hi, if_neg (Ne.symm hi)]
      exact ordI_swap _ _
  · rw [if_neg hk, if_neg (Ne.symm hk)]
    exact ordI_swap _ _
theorem cmpB_swap (k k' : Int) : cmpB k' k = cmpB k k' := by
  unfold cmpB
  rw [Bool.eq_iff_iff]
  simp only [Bool.and_eq_true, beq_iff_eq, Bool.or_eq_true]
  constructor <;> (intro h; omega)
theorem cmpN_swap (k i : Int) (s : ByteArray) (k' i' : Int) (s' : ByteArray) : cmpN k' i' s' k i s = -cmpN k i s k' i' s' := by
  unfold cmpN
  rw [cmpB_swap]
  cases cmpB k k'
  · rfl
  · exact ordV_swap _ _ _ _ _ _
theorem cmpN_three (k i : Int) (s : ByteArray) (k' i' : Int) (s' : ByteArray) : cmpN k i s k' i' s' = -1 ∨ cmpN k i s k' i' s' = 0 ∨ cmpN k i s k' i' s' = 1 := by
  unfold cmpN
  cases cmpB k k'
  · exact Or.inr (Or.inl rfl)
  · exact ordV_three _ _ _ _ _ _

def eqT (b : Bool) (c : Int) : Int := if b then ofT (c == 0) else 2
def ltT (b : Bool) (c : Int) : Int := if b then ofT (decide (c < 0)) else 2
/-- The truth of a sign between two values that compare so. -/
def testT (op : Int) (b : Bool) (c : Int) : Int :=
  if op = 1 then eqT b c else if op = 2 then notT (eqT b c) else if op = 3 then ltT b c else if op = 4 then orL [ltT b c, eqT b c] else if op = 5 then ltT b (-c) else if op = 6 then notT (ltT b c) else 2
set_option maxHeartbeats 400000 in
theorem eq_any (k i : Int) (s : ByteArray) (k' i' : Int) (s' : ByteArray) (w : World) :
    Gives Try.prog 191 #[.agg #[.int .i64 k, .int .i64 i, .string s], .agg #[.int .i64 k', .int .i64 i', .string s']] w (.int .i64 (eqT (cmpB k k') (cmpN k i s k' i' s'))) := by
  unfold Gives
  cases hb : cmpB k k'
  all_goals
    go_enter Try.func191, Try.ntmps191
    go_wp2_with (first | (go_at_call 226; refine (cmp_any _ _ _ _ _ _ _).mono ?_; rintro e w' ⟨rfl, x, rfl⟩) | (go_at_call 156; refine (of_any _ _).mono ?_; rintro e w' ⟨rfl, rfl⟩))
    go_ret
    exact ⟨ret_int rfl, by show Grew w _; repeat (first | exact Grew.refl _ | apply Grew.more | apply Grew.alloc)⟩
set_option maxHeartbeats 400000 in
theorem less_any (k i : Int) (s : ByteArray) (k' i' : Int) (s' : ByteArray) (w : World) :
    Gives Try.prog 192 #[.agg #[.int .i64 k, .int .i64 i, .string s], .agg #[.int .i64 k', .int .i64 i', .string s']] w (.int .i64 (ltT (cmpB k k') (cmpN k i s k' i' s'))) := by
  unfold Gives
  cases hb : cmpB k k'
  all_goals
    go_enter Try.func192, Try.ntmps192
    go_wp2_with (first | (go_at_call 226; refine (cmp_any _ _ _ _ _ _ _).mono ?_; rintro e w' ⟨rfl, x, rfl⟩) | (go_at_call 156; refine (of_any _ _).mono ?_; rintro e w' ⟨rfl, rfl⟩))
    go_ret
    exact ⟨ret_int rfl, by show Grew w _; repeat (first | exact Grew.refl _ | apply Grew.more | apply Grew.alloc)⟩
theorem row_two (w : World) (a b : Int) (B : Nat) (hB : B < w.heap.size) (h0 : w.cell? ⟨B, 0, none⟩ = some (.int .i64 a)) (h1 : w.cell? ⟨B, 1, none⟩ = some (.int .i64 b)) : Row w (some ⟨B, 0, none⟩) ([a, b].map (Value.int .i64)) := by
  refine Or.inr ⟨B, 0, rfl, hB, fun j u hu => ?_⟩
  match j, hu with
  | 0, hu => simp at hu; subst hu; exact h0
  | 1, hu => simp at hu; subst hu; exact h1
set_option maxHeartbeats 2000000 in
theorem test_any (op k i : Int) (s : ByteArray) (k' i' : Int) (s' : ByteArray) (w : World) :
    Gives Try.prog 159 #[.int .i64 op, .agg #[.int .i64 k, .int .i64 i, .string s], .agg #[.int .i64 k', .int .i64 i', .string s']] w (.int .i64 (testT op (cmpB k k') (cmpN k i s k' i' s'))) := by
  unfold Gives
  have hs := Lib.hid (cmpN_swap k i s k' i' s')
  have hb := Lib.hid (cmpB_swap k k')
  by_cases h4 : op = 4
  · subst h4
    go_enter Try.func159, Try.ntmps159
    go_wp2
    refine wp_region_more_tail 6 (by kernel_rfl) (by kernel_rfl) ?_
    simp only [List.take_succ_cons, List.take_zero, List.drop_succ_cons, List.drop_zero]
    repeat (go_big_quiet_step ((first | (go_at_call 192; exact (less_any _ _ _ _ _ _ _).within) | (go_at_call 191; exact (eq_any _ _ _ _ _ _ _).within))))
    refine wpQuiet_nil ?_
    rintro _ ⟨z, rfl⟩
    go_wp2_with fail
    refine (or2_any [ltT (cmpB k k') (cmpN k i s k' i' s'), eqT (cmpB k k') (cmpN k i s k' i' s')] _ _ (by show (2 : Nat) ≤ 1000000; omega) _ (row_two _ _ _ _ ?c1 ?c2 ?c3)).mono ?_
    case c1 => simp [more_size]
    case c2 => exact World.cell?_alloc_at _ _ _ _ (by simp [more_size])
    case c3 => exact World.cell?_alloc_at _ _ _ _ (by simp [more_size])
    rintro e w' ⟨rfl, rfl⟩
    go_wp2_with fail
    go_ret
    exact ⟨rfl, Grew.alloc (Grew.more (((Grew.refl w).alloc _).alloc _) _) _⟩
  · go_enter Try.func159, Try.ntmps159
    go_wp2_with (first | (go_at_call 192; refine (less_any _ _ _ _ _ _ _).mono ?_; rintro e w' ⟨rfl, x, rfl⟩) | (go_at_call 191; refine (eq_any _ _ _ _ _ _ _).mono ?_; rintro e w' ⟨rfl, x, rfl⟩) | (go_at_call 155; refine (not_any _ _).mono ?_; rintro e w' ⟨rfl, rfl⟩))
    all_goals
      go_ret
      exact ⟨ret_int (by simp_all [testT, hs.out, hb.out]), by show Grew w _; repeat (first | exact Grew.refl _ | apply Grew.more | apply Grew.alloc)⟩
end Go.Proofs.Ytddambfniaiogaa
