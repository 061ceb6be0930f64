/- Layer 2: two values tested by a sign; the laws' walks. Condition: a text is no longer than a length may be, a slice of numbers lies in memory that is there. -/
import Derived.Test.YtfdjnhnchibejaaLogic2
namespace Go.Proofs.Ytfdjnhnchibejaa
open Go.RowKit
attribute [local go_sem] more_cell more_frozen more_more more_size more_setCell
attribute [local go_sem ↓] Go.wp_at_zero Go.wp_at_succ

theorem ordI_three (a b : Int) : ordI a b = -1 ∨ ordI a b = 0 ∨ ordI a b = 1 := by
  unfold ordI
  split
  · exact Or.inl rfl
  · split
    · exact Or.inr (Or.inr rfl)
    · exact Or.inr (Or.inl rfl)
theorem ordI_swap (a b : Int) : ordI b a = -ordI a b := by
  unfold ordI
  split <;> split <;> (try split) <;> omega
theorem cmp_three : ∀ a b : List UInt8, Lib.compareBytes a b = -1 ∨ Lib.compareBytes a b = 0 ∨ Lib.compareBytes a b = 1
  | [], [] => by simp [Lib.compareBytes]
  | [], _ :: _ => by simp [Lib.compareBytes]
  | _ :: _, [] => by simp [Lib.compareBytes]
  | a :: x, b :: y => by
    rw [cmp_cons]
    split
    · exact Or.inl rfl
    · split
      · exact Or.inr (Or.inr rfl)
      · exact cmp_three x y
theorem cmp_swap : ∀ a b : List UInt8, Lib.compareBytes b a = -Lib.compareBytes a b
  | [], [] => by simp [Lib.compareBytes]
  | [], _ :: _ => by simp [Lib.compareBytes]
  | _ :: _, [] => by simp [Lib.compareBytes]
  | a :: x, b :: y => by
    rw [cmp_cons, cmp_cons, cmp_swap x y]
    by_cases h1 : a < b
    · have h2 : ¬ b < a := by rw [UInt8.lt_iff_toNat_lt] at h1 ⊢; omega
      rw [if_neg h2, if_pos h1, if_pos h1]
      rfl
    · by_cases h2 : b < a
      · rw [if_pos h2, if_neg h1, if_pos h2]
      · rw [if_neg h2, if_neg h1, if_neg h1, if_neg h2]
theorem ordV_three (k i : Int) (s : ByteArray) (k' i' : Int) (s' : ByteArray) : ordV k i s k' i' s' = -1 ∨ ordV k i s k' i' s' = 0 ∨ ordV k i s k' i' s' = 1 := by
  unfold ordV
  split
  · split
    · exact cmp_three _ _
    · exact ordI_three _ _
  · exact ordI_three _ _
theorem ordV_swap (k i : Int) (s : ByteArray) (k' i' : Int) (s' : ByteArray) : ordV k' i' s' k i s = -ordV k i s k' i' s' := by
  unfold ordV
  by_cases hk : k = k'
  · subst hk
    rw [if_pos rfl, if_pos rfl]
    by_cases hi : i = i'
    · subst hi
      rw [if_pos rfl, if_pos rfl]
      exact cmp_swap _ _
    · rw [if_neg hi, if_neg (Ne.symm hi)]
      exact ordI_swap _ _
  · rw [if_neg hk, if_neg (Ne.symm hk)]
    exact ordI_swap _ _
theorem cmpB_swap (k k' : Int) : cmpB k' k = cmpB k k' := by
  unfold cmpB
  rw [Bool.eq_iff_iff]
  simp only [Bool.and_eq_true, beq_iff_eq, Bool.or_eq_true]
  constructor <;> (intro h; omega)
theorem cmpN_swap (k i : Int) (s : ByteArray) (k' i' : Int) (s' : ByteArray) : cmpN k' i' s' k i s = -cmpN k i s k' i' s' := by
  unfold cmpN
  rw [cmpB_swap]
  cases cmpB k k'
  · rfl
  · exact ordV_swap _ _ _ _ _ _
theorem cmpN_three (k i : Int) (s : ByteArray) (k' i' : Int) (s' : ByteArray) : cmpN k i s k' i' s' = -1 ∨ cmpN k i s k' i' s' = 0 ∨ cmpN k i s k' i' s' = 1 := by
  unfold cmpN
  cases cmpB k k'
  · exact Or.inr (Or.inl rfl)
  · exact ordV_three _ _ _ _ _ _

def eqT (b : Bool) (c : Int) : Int := if b then ofT (c == 0) else 2
def ltT (b : Bool) (c : Int) : Int := if b then ofT (decide (c < 0)) else 2
/-- The truth of a sign between two values that compare so. -/
def testT (op : Int) (b : Bool) (c : Int) : Int :=
  if op = 1 then eqT b c else if op = 2 then notT (eqT b c) else if op = 3 then ltT b c else if op = 4 then orL [ltT b c, eqT b c] else if op = 5 then ltT b (-c) else if op = 6 then notT (ltT b c) else 2
theorem row_two (w : World) (a b : Int) (B : Nat) (hB : B < w.heap.size) (h0 : w.cell? ⟨B, 0, none⟩ = some (.int .i64 a)) (h1 : w.cell? ⟨B, 1, none⟩ = some (.int .i64 b)) : Row w (some ⟨B, 0, none⟩) ([a, b].map (Value.int .i64)) := by
  refine Or.inr ⟨B, 0, rfl, hB, fun j u hu => ?_⟩
  match j, hu with
  | 0, hu => simp at hu; subst hu; exact h0
  | 1, hu => simp at hu; subst hu; exact h1
end Go.Proofs.Ytfdjnhnchibejaa
