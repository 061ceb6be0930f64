/- slices.Values, slices.AppendSeq, slices.Collect, slices.Sorted over a row of numbers. Condition: no more than a million of them. -/
import Derived.RangeFuncBox
import Derived.RangeFuncLeaves
import Derived.Shelf.Abstract
import Derived.WalkKit
import Derived.OwnWalkIn
import Derived.TacticsInMore
import Derived.LoopNIn
import Derived.LoopIn
import Derived.Maps.AppendAt
import Derived.Sort.OwnSortedInts
import Derived.Test.YtbglmcebkpkccaaDoorApp2
import Derived.Test.YtbglmcebkpkccaaDoorShelf
namespace Go.Proofs.YtbglmcebkpkccaaDoor
open Go.RowKit Go.Shelf Go.Proofs
attribute [local go_sem] Oper.semAt_some

theorem iV_getD {l : List Int} {j : Nat} (h : j < l.length) : (iV l)[j]? = some (.int .i64 (l[j]?.getD 0)) := by
  simp [iV, h]
end Go.Proofs.YtbglmcebkpkccaaDoor
