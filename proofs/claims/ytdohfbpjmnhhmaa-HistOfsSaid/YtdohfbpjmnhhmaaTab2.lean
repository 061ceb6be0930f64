/- Layer 5: the place of the first of a name. No condition. -/
import Derived.Test.YtdohfbpjmnhhmaaTabMath
import Derived.Test.YtdohfbpjmnhhmaaTabKit
namespace Go.Proofs.Ytdohfbpjmnhhmaa
open Go.RowKit
attribute [local go_sem] more_cell more_frozen more_more more_setCell more_of_drew more_of_drewN lt_more le_more past_cell past_cell2 past_frozen past_frozen2 past_setCell past_setCell2 mid_cell mid_frozen mid_setCell
attribute [local go_sem ↓] Go.wp_at_zero Go.wp_at_succ

def IdxAt (w : World) (ns : List ByteArray) (n : ByteArray) (i : Value) (wr : World) : Prop := ∃ j : Nat, j ≤ ns.length ∧ i = .int .i64 j ∧ Grew w wr ∧ ∀ k (hk : k < ns.length), k < j → ¬ ns[k] = n
def IdxF (w : World) (ns : List ByteArray) (n : ByteArray) (e : Ending) (w' : World) : Prop := ∃ z : Int, e = .returned (.int .i64 z) ∧ Idx ns n z ∧ Grew w w'
end Go.Proofs.Ytdohfbpjmnhhmaa
