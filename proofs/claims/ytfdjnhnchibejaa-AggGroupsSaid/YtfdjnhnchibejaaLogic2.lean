/- Layer 2's functions over slices of truths, and the tests of values by signs: what each call returns. Condition: a slice of numbers lies in memory that is there, a text is no longer than a length may be. -/
import Derived.Test.YtfdjnhnchibejaaLogic
namespace Go.Proofs.Ytfdjnhnchibejaa
open Go.RowKit
attribute [local go_sem] more_cell more_frozen more_more more_size more_setCell
attribute [local go_sem ↓] Go.wp_at_zero Go.wp_at_succ

theorem take_one {α : Type} (l : List α) (k : Nat) (h : k < l.length) : l.take (k + 1) = l.take k ++ [l[k]] := by
  rw [List.take_succ_eq_append_getElem h]
theorem andL_take (l : List Int) (k : Nat) (h : k < l.length) : andL (l.take (k + 1)) = andT (andL (l.take k)) l[k] := by
  unfold andL
  rw [take_one l k h, List.foldl_append]
  rfl
theorem orL_take (l : List Int) (k : Nat) (h : k < l.length) : orL (l.take (k + 1)) = orT (orL (l.take k)) l[k] := by
  unfold orL
  rw [take_one l k h, List.foldl_append]
  rfl
theorem and_zero : ∀ l : List Int, l.foldl andT 0 = 0
  | [] => rfl
  | x :: l => by
    show l.foldl andT (andT 0 x) = 0
    have e : andT 0 x = 0 := by simp [andT]
    rw [e]
    exact and_zero l
theorem or_one : ∀ l : List Int, l.foldl orT 1 = 1
  | [] => rfl
  | x :: l => by
    show l.foldl orT (orT 1 x) = 1
    have e : orT 1 x = 1 := by simp [orT]
    rw [e]
    exact or_one l
theorem andL_stop (l : List Int) (k : Nat) (h : k < l.length) (hx : l[k] = 0) : andL l = 0 := by
  have e : andL (l.take (k + 1)) = 0 := by
    rw [andL_take l k h, hx]
    unfold andT
    split <;> rfl
  unfold andL at e ⊢
  conv => lhs; rw [← List.take_append_drop (k + 1) l, List.foldl_append]
  rw [e]
  exact and_zero _
theorem orL_stop (l : List Int) (k : Nat) (h : k < l.length) (hx : l[k] = 1) : orL l = 1 := by
  have e : orL (l.take (k + 1)) = 1 := by
    rw [orL_take l k h, hx]
    unfold orT
    split <;> simp
  unfold orL at e ⊢
  conv => lhs; rw [← List.take_append_drop (k + 1) l, List.foldl_append]
  rw [e]
  exact or_one _
def AndAt (l : List Int) (a i : Value) : Prop := ∃ (k : Nat) (x : Int), k ≤ l.length ∧ i = .int .i64 k ∧ a = .int .i64 x ∧ andL (l.take k) = x ∧ (x = 1 ∨ x = 2)
def OrAt2 (l : List Int) (a i : Value) : Prop := ∃ (k : Nat) (x : Int), k ≤ l.length ∧ i = .int .i64 k ∧ a = .int .i64 x ∧ orL (l.take k) = x ∧ (x = 0 ∨ x = 2)

def RAndAt (f : List Int → Int) (l : List Int) (w : World) (a i : Value) (wr : World) : Prop := ∃ (k : Nat), k ≤ l.length ∧ i = .int .i64 k ∧ a = .int .i64 (f (l.take k)) ∧ Grew w wr
end Go.Proofs.Ytfdjnhnchibejaa
