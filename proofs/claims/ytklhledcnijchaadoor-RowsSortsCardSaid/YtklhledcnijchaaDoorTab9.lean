/- Layer 5: a list of rows of its own; Find, Col, Size. Condition: no more than a million rows. -/
import Derived.Test.YtklhledcnijchaaDoorTabKit
import Derived.Test.YtklhledcnijchaaDoorRowMuch
import Derived.Test.YtklhledcnijchaaDoorApp2
import Derived.Deep.DeepCutAuto
import Derived.Deep.RegionWith
import Derived.Deep.OwnRows
import Derived.WalkMore
import Derived.Test.YtklhledcnijchaaDoorMix
import Derived.Test.YtklhledcnijchaaDoorRowEq
import Derived.WalkSpells
namespace Go.Proofs.YtklhledcnijchaaDoor
open Go.RowKit
attribute [local go_sem] more_cell more_frozen more_more more_setCell more_of_drew more_of_drewN lt_more le_more past_cell past_cell2 past_frozen past_frozen2 past_setCell past_setCell2 mid_cell mid_frozen mid_setCell
attribute [local go_sem ↓] Go.wp_at_zero Go.wp_at_succ

theorem infoRw : (Tryd.prog.info? 22).map (fun i => (i.zero, i.size, i.bytes)) = some (some (.slice none 0 0), 1, 24) := by kernel_rfl
/-- A slice of its own that reads as xs. -/
def MineF (w : World) (e : TypeId) (n : Nat) (xs : List Value) (en : Ending) (w' : World) : Prop := ∃ A k, en = .returned (.slice A n k) ∧ n ≤ k ∧ Grew w w' ∧ TRow w.heap.size w' e A xs
end Go.Proofs.YtklhledcnijchaaDoor
