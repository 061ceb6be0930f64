/- Layer 26: the document's own answer for sums and products of counts; its example. No condition. -/
import Derived.Test.YtbglmcebkpkccaaDoorSat
import Derived.Laws.Externs
import Derived.Shelf.Spec.BitsCarry
namespace Go.Proofs.YtbglmcebkpkccaaDoor
open Go.RowKit
attribute [local go_sem] more_cell more_frozen more_more more_setCell more_of_drew more_of_drewN lt_more le_more past_cell past_cell2 past_frozen past_frozen2 past_setCell past_setCell2 mid_cell mid_frozen mid_setCell
attribute [local go_sem ↓] Go.wp_at_zero Go.wp_at_succ

theorem times_zero {x y : Int} (h : x = 0 ∨ y = 0) : timesI x y = 0 := by
  unfold timesI
  rcases h with rfl | rfl
  · rw [Int.zero_mul, if_neg (by omega)]
  · rw [Int.mul_zero, if_neg (by omega)]
theorem times_over {x y : Int} (hy : 0 < y) (h : 4611686018427387904 / y < x) : timesI x y = 4611686018427387904 := by
  have h1 := Int.lt_mul_of_ediv_lt hy h
  unfold timesI
  rw [if_pos h1]
theorem times_under {x y : Int} (hy : 0 < y) (h : x ≤ 4611686018427387904 / y) : timesI x y = x * y ∧ x * y ≤ 4611686018427387904 := by
  have h1 := Int.mul_le_of_le_ediv hy h
  unfold timesI
  rw [if_neg (by omega)]
  exact ⟨rfl, h1⟩
def RfoldPAt (l : List Int) (x i : Value) : Prop := ∃ k : Nat, k ≤ l.length ∧ i = .int .i64 k ∧ x = .int .i64 (foldP (l.take k) 0)
def RfoldMAt (l : List Int) (x i : Value) : Prop := ∃ k : Nat, k ≤ l.length ∧ i = .int .i64 k ∧ x = .int .i64 (foldM (l.take k) 1)
theorem row_of (W : World) (B : Nat) (l : List Int) (hB : B = W.heap.size) (C : Array Value) (hC : C.toList = l.map (Value.int .i64)) : Row (W.alloc (.cells C 3)) (some ⟨B, 0, none⟩) (l.map (Value.int .i64)) := by
  refine Or.inr ⟨_, 0, rfl, by rw [World.size_alloc]; omega, fun j u hu => ?_⟩
  rw [World.cell?_alloc_at _ _ _ _ hB, Nat.zero_add, ← hu, ← hC, Array.getElem?_toList]
end Go.Proofs.YtbglmcebkpkccaaDoor
