/- Layer 2: the document's own test of two values; the walks of the laws. Condition: a text is no longer than a length may be, a slice of numbers lies in memory that is there. -/
import Derived.Test.YtfdjnhnchibejaaLogic3
namespace Go.Proofs.Ytfdjnhnchibejaa
open Go.RowKit
attribute [local go_sem] more_cell more_frozen more_more more_size more_setCell
attribute [local go_sem ↓] Go.wp_at_zero Go.wp_at_succ

end Go.Proofs.Ytfdjnhnchibejaa
