/- Layer 8: the columns of an expression; the page's example. Condition: expressions that lie in memory that is there. -/
import Derived.Test.YtajjedgpfeakjaaDoorTree8
namespace Go.Proofs.YtajjedgpfeakjaaDoor
open Go.RowKit
attribute [local go_sem] more_cell more_frozen more_more more_setCell more_of_drew more_of_drewN lt_more le_more past_cell past_cell2 past_frozen past_frozen2 past_setCell past_setCell2 mid_cell mid_frozen mid_setCell
attribute [local go_sem ↓] Go.wp_at_zero Go.wp_at_succ

/-- Expressions are handed back. -/
def ExsF (w : World) (l : List Ex) (e : Ending) (w' : World) : Prop := ∃ A k, e = .returned (.slice A l.length k) ∧ Grew w w' ∧ ExsR (PRow w') A l
end Go.Proofs.YtajjedgpfeakjaaDoor
