/- Layer 27: numbers sorted by the library, and how many marks are below a number. Condition: no more than a million of them. -/
import Derived.Test.YtpdkacfhnmfmaaaIter
import Derived.Test.YtpdkacfhnmfmaaaSame
import Derived.Test.YtpdkacfhnmfmaaaHistMath
namespace Go.Proofs.Ytpdkacfhnmfmaaa
open Go.RowKit
attribute [local go_sem] more_cell more_frozen more_more more_setCell more_of_drew more_of_drewN lt_more le_more past_cell past_cell2 past_frozen past_frozen2 past_setCell past_setCell2 mid_cell mid_frozen mid_setCell
attribute [local go_sem ↓] Go.wp_at_zero Go.wp_at_succ

/-- Numbers that come back in a row. -/
def IntsF (w : World) (l : List Int) (e : Ending) (w' : World) : Prop := ∃ A k, e = .returned (.slice A l.length k) ∧ Grew w w' ∧ Row w' A (iV l)
theorem rowI_at {w : World} {A : Option Addr} {l : List Int} (h : Row w A (iV l)) {j : Nat} (hj : j < l.length) : ∃ b o, A = some ⟨b, o, none⟩ ∧ b < w.heap.size ∧ w.cell? ⟨b, o + j, none⟩ = some (.int .i64 l[j]) := by
  obtain ⟨b, o, rfl⟩ := irow_some h hj
  obtain ⟨h1, h2⟩ := irow_cell h hj rfl
  exact ⟨b, o, rfl, h1, h2⟩
def BelAt (w : World) (l : List Int) (n : Int) (c i : Value) (wr : World) : Prop := ∃ j : Nat, j ≤ l.length ∧ i = .int .i64 j ∧ c = .int .i64 (belowN (l.take j) n) ∧ Grew w wr
end Go.Proofs.Ytpdkacfhnmfmaaa
