/- Layer 27: the document's sort, in memory of its own. Condition: no more than a million numbers. -/
import Derived.Test.YtpdkacfhnmfmaaaHist3
import Derived.Test.YtpdkacfhnmfmaaaMix
namespace Go.Proofs.Ytpdkacfhnmfmaaa
open Go.RowKit
attribute [local go_sem] more_cell more_frozen more_more more_setCell more_of_drew more_of_drewN lt_more le_more past_cell past_cell2 past_frozen past_frozen2 past_setCell past_setCell2 mid_cell mid_frozen mid_setCell
attribute [local go_sem ↓] Go.wp_at_zero Go.wp_at_succ

/-- Numbers that come back in a row of one's own. -/
def IntsT (w : World) (l : List Int) (e : Ending) (w' : World) : Prop := ∃ A k, e = .returned (.slice A l.length k) ∧ l.length ≤ k ∧ Grew w w' ∧ TRow w.heap.size w' 3 A (iV l)
def SrtTAt (w : World) (l : List Int) (v i : Value) (wr : World) : Prop := ∃ (j : Nat) (A : Option Addr) (c : Nat), j ≤ l.length ∧ i = .int .i64 j ∧ v = .slice A j c ∧ j ≤ c ∧ Grew w wr ∧ TRow w.heap.size wr 3 A (iV (sortI (l.take j)))
def ScanTAt (w : World) (s : List Int) (x : Int) (k : Value) (wr : World) : Prop := ∃ j : Nat, j ≤ s.length ∧ k = .int .i64 j ∧ Grew w wr ∧ ∀ y ∈ s.drop j, x ≤ y
end Go.Proofs.Ytpdkacfhnmfmaaa
