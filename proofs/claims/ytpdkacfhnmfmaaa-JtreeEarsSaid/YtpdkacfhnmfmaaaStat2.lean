/- Layer 27: small words on what is said, by the document. Condition: what lies in memory that is there. -/
import Derived.Test.YtpdkacfhnmfmaaaStat
import Derived.Test.YtpdkacfhnmfmaaaSame
import Derived.Test.YtpdkacfhnmfmaaaTabKit
import Derived.Test.YtpdkacfhnmfmaaaRowEq
namespace Go.Proofs.Ytpdkacfhnmfmaaa
open Go.RowKit
attribute [local go_sem] more_cell more_frozen more_more more_setCell more_of_drew more_of_drewN lt_more le_more past_cell past_cell2 past_frozen past_frozen2 past_setCell past_setCell2 mid_cell mid_frozen mid_setCell
attribute [local go_sem ↓] Go.wp_at_zero Go.wp_at_succ

theorem cst_cases (x y : Cst) : ((x.n == y.n) = false) ∨ (x.n = y.n ∧ (x.u == y.u) = false) ∨ (x.n = y.n ∧ x.u = y.u) := by
  by_cases h1 : x.n = y.n
  · by_cases h2 : x.u = y.u
    · exact Or.inr (Or.inr ⟨h1, h2⟩)
    · exact Or.inr (Or.inl ⟨h1, by simpa using h2⟩)
  · exact Or.inl (by simpa using h1)
def EqCs (w : World) (l m : List Cst) (i : Value) (wr : World) : Prop := ∃ j : Nat, j ≤ l.length ∧ i = .int .i64 j ∧ Grew w wr ∧ l.take j = m.take j
def goodS (s : Sst) : Prop := s.cols.length ≤ 30 ∧ ∀ c ∈ s.cols, c.m.length ≤ 60
def MuchSAt (w : World) (l : List Cst) (i : Value) (wr : World) : Prop := ∃ j : Nat, j ≤ l.length ∧ j ≤ 40 ∧ i = .int .i64 j ∧ Grew w wr ∧ ∀ c ∈ l.take j, c.m.length ≤ 60
end Go.Proofs.Ytpdkacfhnmfmaaa
