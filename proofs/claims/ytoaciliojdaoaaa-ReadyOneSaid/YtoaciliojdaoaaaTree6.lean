/- Layer 8: how many parts, how deep, which sums, how it binds. Condition: expressions that lie in memory that is there. -/
import Derived.Test.YtoaciliojdaoaaaTree5
namespace Go.Proofs.Ytoaciliojdaoaaa
open Go.RowKit
attribute [local go_sem] more_cell more_frozen more_more more_setCell more_of_drew more_of_drewN lt_more le_more past_cell past_cell2 past_frozen past_frozen2 past_setCell past_setCell2 mid_cell mid_frozen mid_setCell
attribute [local go_sem ↓] Go.wp_at_zero Go.wp_at_succ

end Go.Proofs.Ytoaciliojdaoaaa
