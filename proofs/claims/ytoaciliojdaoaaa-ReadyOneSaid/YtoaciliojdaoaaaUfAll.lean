/- Layer 6: all classes, as the document makes them. No condition but that the row lies in memory that is there. -/
import Derived.Test.YtoaciliojdaoaaaNest
import Derived.Test.YtoaciliojdaoaaaUfCls
import Derived.Laws.MakeOwn
namespace Go.Proofs.Ytoaciliojdaoaaa
open Go.RowKit
attribute [local go_sem] more_cell more_frozen more_more more_setCell more_of_drew more_of_drewN lt_more le_more past_cell past_cell2 past_frozen past_frozen2 past_setCell past_setCell2 mid_cell mid_frozen mid_setCell
attribute [local go_sem ↓] Go.wp_at_zero Go.wp_at_succ

def R6AllAt (n : Nat) (r : Nat → Nat) (w : World) (v i : Value) (wr : World) : Prop :=
  ∃ (j : Nat) (A : Option Addr) (c : Nat) (vs : List Value), j ≤ n ∧ i = .int .i64 j ∧ v = .slice A (clsA j n r).length c ∧ Nest wr w.heap.size w.heap.size A c vs (clsA j n r) ∧ Grew w wr
def R6AllIn (n j : Nat) (r : Nat → Nat) (wo : World) (v i : Value) (wr : World) : Prop :=
  ∃ (k : Nat) (A : Option Addr) (c : Nat), k ≤ n ∧ j ≤ k ∧ i = .int .i64 k ∧ v = .slice A (clsL k r j).length c ∧ wr.ownsRow wo.heap.size 3 1 (.slice A (clsL k r j).length c) (clsL k r j).length (nL (clsL k r j)) ∧ Grew wo wr
end Go.Proofs.Ytoaciliojdaoaaa
