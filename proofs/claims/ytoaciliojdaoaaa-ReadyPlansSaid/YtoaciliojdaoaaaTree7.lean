/- Layer 8: which sums, how it binds, how many parts a sign has. Condition: expressions that lie in memory that is there. -/
import Derived.Test.YtoaciliojdaoaaaTree6
namespace Go.Proofs.Ytoaciliojdaoaaa
open Go.RowKit
attribute [local go_sem] more_cell more_frozen more_more more_setCell more_of_drew more_of_drewN lt_more le_more past_cell past_cell2 past_frozen past_frozen2 past_setCell past_setCell2 mid_cell mid_frozen mid_setCell
attribute [local go_sem ↓] Go.wp_at_zero Go.wp_at_succ

def IndexR (w : World) (t : Bool) (e : Ending) (w' : World) : Prop := ∃ r : Int, e = .returned (.int .i64 r) ∧ Grew w w' ∧ (decide (0 ≤ r) = t)
def IndexAt (w : World) (l : List Ex) (i : Value) (wr : World) : Prop := ∃ j : Nat, j ≤ l.length ∧ i = .int .i64 j ∧ Grew w wr ∧ sumsL (l.take j) = false
theorem sums_in {x : Ex} (h : 17 ≤ x.op ∧ x.op ≤ 21) : x.sums = true := by rw [sums_eq, decide_eq_true h]; rfl
theorem sums_out {x : Ex} (h : ¬ (17 ≤ x.op ∧ x.op ≤ 21)) : x.sums = sumsL x.l := by rw [sums_eq, decide_eq_false h]; rfl
def levelI (op : Int) : Int :=
  if op = 11 then 1 else if op = 10 then 2 else if op = 12 then 3 else if (1 ≤ op ∧ op ≤ 6) ∨ op = 13 ∨ op = 14 then 4 else if op = 7 ∨ op = 8 then 5 else if op = 9 then 6 else 7
def argsI (op : Int) : Int := if 1 ≤ op ∧ op ≤ 11 then 2 else if (12 ≤ op ∧ op ≤ 14) ∨ (18 ≤ op ∧ op ≤ 21) then 1 else 0
end Go.Proofs.Ytoaciliojdaoaaa
