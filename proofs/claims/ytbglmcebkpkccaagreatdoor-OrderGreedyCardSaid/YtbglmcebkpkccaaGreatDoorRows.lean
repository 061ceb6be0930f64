/-
  NARROWER THAN 'FOR EVERY INPUT', by the rows' own cells (each row's printed sentence says how): CostSizes: loops, laid · OrderCosts: loops, laid · OrderBests: loops, laid · OrderGreedy: loops, laid.
  DERIVED. THE GIVEN ROWS OF THIS SEAT. 4 by the template 'for every input the law returns true; each argument reads behind the call as it read before'; 0 by the template 'total and deterministic' (their statements: YtbglmcebkpkccaaGreatDoorTotals.lean).
  GIVEN WITH THE SEED: the statements are not yours to turn. If you find one false, say at which input.
  Laid BY PROGRAM, IN A SANDBOX (cutbox-rows.mjs): the forced cells as the released guide's own fill.sh prints them over the translation 9075c60f52dfc680… (all of the seat's roots in one cut). By AI agents, Wed Nov 11 2026. No macro, syntax, notation, axiom, sorry.
-/
import Derived.Test.YtbglmcebkpkccaaGreatDoorChecked
import GoSem.Claim
import GoSem.ClaimJoined
import GoSem.ClaimMapViews
import Derived.JoinedTies
import Derived.KernelRfl
namespace Go.Proofs.YtbglmcebkpkccaaGreatDoor
/- THE CELL 'sum', in the pinned program and in every row, IS THE sha256 OF THE DUMP (.gsa) THAT YtbglmcebkpkccaaGreatDoorProg.lean LOADS. Nothing in Lean hashes anything: it is a label: what it is worth is what the hold of that sum in a sandbox is worth. -/
noncomputable def Tryz.pinned : Pinned := { name := "ytbglmcebkpkccaagreatdoor", sum := "9075c60f52dfc68058278233c65f82cd83ef741e5cf8b3b26c9cb7e3d4e3b73a", checked := Tryz.checked }
namespace Rows
def none {H : Type} : Left H := { results := [], args := [] }

/- WHAT THE LISTED PACKAGE-LEVEL VARIABLES READ AS WHEN THE CALL BEGINS. Each datum BY PROGRAM (the guide's laid-datum.mjs) off the statement by which the dump's own 'gosem.cut.vars' lays the variable. In a bare row this is a premise. The card (YtbglmcebkpkccaaGreatDoorCards.lean) ties it to the program's text. -/
def laid_trommel_cost_turned {H : Type} : DataW H := .agg [.lit (.int .i64 0), .lit (.int .i64 1), .lit (.int .i64 2), .lit (.int .i64 5), .lit (.int .i64 6), .lit (.int .i64 3), .lit (.int .i64 4)]

/-- 'trommellaw29.CostSizes': WHATEVER THE INPUT: true; the input reads as it did. -/
def costSizesSpec : ChangeSpec := { name := "costSizes", fn := fun _ => fun
  | [d1, d2, d3, d4, d5] => { results := [.lit (.bool true)], args := [d1, d2, d3, d4, d5] }
  | _ => none }
def costSizesRow : OpenClaim := { program := "ytbglmcebkpkccaagreatdoor", sum := "9075c60f52dfc68058278233c65f82cd83ef741e5cf8b3b26c9cb7e3d4e3b73a", func := "trommel/trommellaw29.CostSizes", spec := "costSizes", inPlace := ["math/bits.Add64", "math.archCeil", "math.archFloor", "math.Float64bits", "math.Float64frombits", "math.archTrunc"], unfollowed := true, recurses := true, named := ["math/bits.divideError", "math/bits.overflowError", "trommel/cost.turned"], loops := true, apart := false, laid := [("trommel/cost.turned", laid_trommel_cost_turned)] }
def CostSizesSaid : Prop := costSizesRow.holds Tryz.pinned (OpenSpec.ofChange costSizesSpec)

/-- ITS FALSE NEIGHBOUR: 'it returns false'. Refute it at one input. -/
def costSizesWrong : ChangeSpec := { name := "costSizes", fn := fun _ => fun
  | [d1, d2, d3, d4, d5] => { results := [.lit (.bool false)], args := [d1, d2, d3, d4, d5] }
  | _ => none }
def CostSizesWrongFalsely : Prop := costSizesRow.holds Tryz.pinned (OpenSpec.ofChange costSizesWrong)

/-- 'trommellaw30.OrderCosts': WHATEVER THE INPUT: true; the input reads as it did. -/
def orderCostsSpec : ChangeSpec := { name := "orderCosts", fn := fun _ => fun
  | [d1, d2, d3] => { results := [.lit (.bool true)], args := [d1, d2, d3] }
  | _ => none }
def orderCostsRow : OpenClaim := { program := "ytbglmcebkpkccaagreatdoor", sum := "9075c60f52dfc68058278233c65f82cd83ef741e5cf8b3b26c9cb7e3d4e3b73a", func := "trommel/trommellaw30.OrderCosts", spec := "orderCosts", inPlace := ["math.archCeil", "math.archFloor", "math.Float64bits", "math.Float64frombits", "math.archTrunc"], unfollowed := true, recurses := true, named := ["trommel/cost.turned"], loops := true, apart := false, laid := [("trommel/cost.turned", laid_trommel_cost_turned)] }
def OrderCostsSaid : Prop := orderCostsRow.holds Tryz.pinned (OpenSpec.ofChange orderCostsSpec)

/-- ITS FALSE NEIGHBOUR: 'it returns false'. Refute it at one input. -/
def orderCostsWrong : ChangeSpec := { name := "orderCosts", fn := fun _ => fun
  | [d1, d2, d3] => { results := [.lit (.bool false)], args := [d1, d2, d3] }
  | _ => none }
def OrderCostsWrongFalsely : Prop := orderCostsRow.holds Tryz.pinned (OpenSpec.ofChange orderCostsWrong)

/-- 'trommellaw30.OrderBests': WHATEVER THE INPUT: true; the input reads as it did. -/
def orderBestsSpec : ChangeSpec := { name := "orderBests", fn := fun _ => fun
  | [d1, d2] => { results := [.lit (.bool true)], args := [d1, d2] }
  | _ => none }
def orderBestsRow : OpenClaim := { program := "ytbglmcebkpkccaagreatdoor", sum := "9075c60f52dfc68058278233c65f82cd83ef741e5cf8b3b26c9cb7e3d4e3b73a", func := "trommel/trommellaw30.OrderBests", spec := "orderBests", inPlace := ["math.archCeil", "math.archFloor", "math.Float64bits", "math.Float64frombits", "math.archTrunc"], unfollowed := true, recurses := true, named := ["trommel/cost.turned"], loops := true, apart := false, laid := [("trommel/cost.turned", laid_trommel_cost_turned)] }
def OrderBestsSaid : Prop := orderBestsRow.holds Tryz.pinned (OpenSpec.ofChange orderBestsSpec)

/-- ITS FALSE NEIGHBOUR: 'it returns false'. Refute it at one input. -/
def orderBestsWrong : ChangeSpec := { name := "orderBests", fn := fun _ => fun
  | [d1, d2] => { results := [.lit (.bool false)], args := [d1, d2] }
  | _ => none }
def OrderBestsWrongFalsely : Prop := orderBestsRow.holds Tryz.pinned (OpenSpec.ofChange orderBestsWrong)

/-- 'trommellaw30.OrderGreedy': WHATEVER THE INPUT: true; the input reads as it did. -/
def orderGreedySpec : ChangeSpec := { name := "orderGreedy", fn := fun _ => fun
  | [d1, d2] => { results := [.lit (.bool true)], args := [d1, d2] }
  | _ => none }
def orderGreedyRow : OpenClaim := { program := "ytbglmcebkpkccaagreatdoor", sum := "9075c60f52dfc68058278233c65f82cd83ef741e5cf8b3b26c9cb7e3d4e3b73a", func := "trommel/trommellaw30.OrderGreedy", spec := "orderGreedy", inPlace := ["math.archCeil", "math.archFloor", "math.Float64bits", "math.Float64frombits", "math.archTrunc"], unfollowed := true, recurses := true, named := ["trommel/cost.turned"], loops := true, apart := false, laid := [("trommel/cost.turned", laid_trommel_cost_turned)] }
def OrderGreedySaid : Prop := orderGreedyRow.holds Tryz.pinned (OpenSpec.ofChange orderGreedySpec)

/-- ITS FALSE NEIGHBOUR: 'it returns false'. Refute it at one input. -/
def orderGreedyWrong : ChangeSpec := { name := "orderGreedy", fn := fun _ => fun
  | [d1, d2] => { results := [.lit (.bool false)], args := [d1, d2] }
  | _ => none }
def OrderGreedyWrongFalsely : Prop := orderGreedyRow.holds Tryz.pinned (OpenSpec.ofChange orderGreedyWrong)

/- THE SECOND FORM. 'bulk': how many values and letters a reading holds, each counted each time it is reached (what is shared counts as often as it is met; a slice's spare places count too). A statement '..UptoSaid' is the law's where the arguments, and the package variables that the reading takes, are together of bulk at most 1048576: NARROWER than '..Said'. Prove '..Said' where nothing that the law and all that it calls make is longer than what came in: it says more and counts as full. Else prove '..UptoSaid'. A law counts once. -/
mutual
def uptoBulk {H : Type} : DataW H → Nat
  | .lit (.string bytes) => bytes.length + 1
  | .lit _ => 1
  | .nil => 1
  | .ptr d => uptoBulk d + 1
  | .slice elems spare => uptoBulkAll elems + uptoBulkAll spare + 1
  | .agg parts => uptoBulkAll parts + 1
  | .iface _ d => uptoBulk d + 1
  | .map entries => uptoBulkEntries entries + 1
  | .held _ => 1
def uptoBulkAll {H : Type} : List (DataW H) → Nat
  | [] => 0
  | d :: r => uptoBulk d + uptoBulkAll r
def uptoBulkEntries {H : Type} : List (Lit × DataW H) → Nat
  | [] => 0
  | x :: r => uptoBulkEntry x + uptoBulkEntries r
def uptoBulkEntry {H : Type} : Lit × DataW H → Nat
  | (.string bytes, d) => bytes.length + uptoBulk d + 1
  | (_, d) => uptoBulk d + 1
 end
def uptoSmall : (H : Type) → List (DataW H) → Bool := fun _ ds => decide (uptoBulkAll ds ≤ 1048576)
def OpenSpec.upto (s : _root_.Go.ChangeSpec) : _root_.Go.OpenSpec := { _root_.Go.OpenSpec.ofChange s with cond := some uptoSmall }

/-- 'trommellaw29.CostSizes', WHERE WHAT IT READS IS OF BULK AT MOST 1048576: true; the input reads as it did. -/
def costSizesUptoRow : OpenClaim := { program := "ytbglmcebkpkccaagreatdoor", sum := "9075c60f52dfc68058278233c65f82cd83ef741e5cf8b3b26c9cb7e3d4e3b73a", func := "trommel/trommellaw29.CostSizes", spec := "costSizes", inPlace := ["math/bits.Add64", "math.archCeil", "math.archFloor", "math.Float64bits", "math.Float64frombits", "math.archTrunc"], unfollowed := true, recurses := true, named := ["math/bits.divideError", "math/bits.overflowError", "trommel/cost.turned"], loops := true, apart := false, laid := [("trommel/cost.turned", laid_trommel_cost_turned)], narrowed := true }
def CostSizesUptoSaid : Prop := costSizesUptoRow.holds Tryz.pinned (OpenSpec.upto costSizesSpec)

/-- 'trommellaw30.OrderCosts', WHERE WHAT IT READS IS OF BULK AT MOST 1048576: true; the input reads as it did. -/
def orderCostsUptoRow : OpenClaim := { program := "ytbglmcebkpkccaagreatdoor", sum := "9075c60f52dfc68058278233c65f82cd83ef741e5cf8b3b26c9cb7e3d4e3b73a", func := "trommel/trommellaw30.OrderCosts", spec := "orderCosts", inPlace := ["math.archCeil", "math.archFloor", "math.Float64bits", "math.Float64frombits", "math.archTrunc"], unfollowed := true, recurses := true, named := ["trommel/cost.turned"], loops := true, apart := false, laid := [("trommel/cost.turned", laid_trommel_cost_turned)], narrowed := true }
def OrderCostsUptoSaid : Prop := orderCostsUptoRow.holds Tryz.pinned (OpenSpec.upto orderCostsSpec)

/-- 'trommellaw30.OrderBests', WHERE WHAT IT READS IS OF BULK AT MOST 1048576: true; the input reads as it did. -/
def orderBestsUptoRow : OpenClaim := { program := "ytbglmcebkpkccaagreatdoor", sum := "9075c60f52dfc68058278233c65f82cd83ef741e5cf8b3b26c9cb7e3d4e3b73a", func := "trommel/trommellaw30.OrderBests", spec := "orderBests", inPlace := ["math.archCeil", "math.archFloor", "math.Float64bits", "math.Float64frombits", "math.archTrunc"], unfollowed := true, recurses := true, named := ["trommel/cost.turned"], loops := true, apart := false, laid := [("trommel/cost.turned", laid_trommel_cost_turned)], narrowed := true }
def OrderBestsUptoSaid : Prop := orderBestsUptoRow.holds Tryz.pinned (OpenSpec.upto orderBestsSpec)

/-- 'trommellaw30.OrderGreedy', WHERE WHAT IT READS IS OF BULK AT MOST 1048576: true; the input reads as it did. -/
def orderGreedyUptoRow : OpenClaim := { program := "ytbglmcebkpkccaagreatdoor", sum := "9075c60f52dfc68058278233c65f82cd83ef741e5cf8b3b26c9cb7e3d4e3b73a", func := "trommel/trommellaw30.OrderGreedy", spec := "orderGreedy", inPlace := ["math.archCeil", "math.archFloor", "math.Float64bits", "math.Float64frombits", "math.archTrunc"], unfollowed := true, recurses := true, named := ["trommel/cost.turned"], loops := true, apart := false, laid := [("trommel/cost.turned", laid_trommel_cost_turned)], narrowed := true }
def OrderGreedyUptoSaid : Prop := orderGreedyUptoRow.holds Tryz.pinned (OpenSpec.upto orderGreedySpec)

end Rows
end Go.Proofs.YtbglmcebkpkccaaGreatDoor
