/- Layer 6: the document's own classes: rows of numbers. No condition. -/
import Derived.Test.YtbglmcebkpkccaaGreatDoorUf3
import Derived.Test.YtbglmcebkpkccaaGreatDoorApp
import Derived.Deep.QuietTactic
namespace Go.Proofs.YtbglmcebkpkccaaGreatDoor
open Go.RowKit
attribute [local go_sem] more_cell more_frozen more_more more_setCell more_of_drew more_of_drewN lt_more le_more past_cell past_cell2 past_frozen past_frozen2 past_setCell past_setCell2 mid_cell mid_frozen mid_setCell
attribute [local go_sem ↓] Go.wp_at_zero Go.wp_at_succ

/-- A slice of n numbers, by a function, is left; nothing else has turned. -/
def Nums (w : World) (A0 : Option Addr) (n : Nat) (f : Nat → Nat) (e : Ending) (w' : World) : Prop := ∃ A c, e = .returned (.slice A n c) ∧ Grew w w' ∧ Row w' A (numsL n f) ∧ (A = A0 ∨ ∀ p, A = some p → w.heap.size ≤ p.block)
def RNewAt (w : World) (n : Nat) (v i : Value) (wr : World) : Prop :=
  ∃ (k : Nat) (A : Option Addr) (c : Nat), k ≤ n ∧ i = .int .i64 k ∧ v = .slice A k c ∧ wr.ownsRow w.heap.size 3 1 (.slice A k c) k (numsL k id) ∧ Grew w wr
/-- The row of the document's own, while it is turned. -/
def RJoinAt (w : World) (g c n : Nat) (f : Nat → Nat) (x y : Nat) (i : Value) (wr : World) : Prop :=
  ∃ k : Nat, k ≤ n ∧ i = .int .i64 k ∧ wr.ownsRow w.heap.size 3 1 (.slice (some ⟨g, 0, none⟩) n c) n (numsL n (fun j => if j < k then (if f j = y then x else f j) else f j)) ∧ Grew w wr
end Go.Proofs.YtbglmcebkpkccaaGreatDoor
