/-
  DERIVED. GIVEN WITH THE SEED: THE CARDS: each row of YtbglmcebkpkccaaGreatDoorRows.lean that lists a variable, with what it lists TIED to the program's text (the seventh form; the later family's looks); each row that meets fmt, with fmt's text TOLD by the authors' own Lean function (tested against real Go, not proved from fmt's source: count such statements apart). THE CARD IS WHAT COUNTS. Prove the row's statement (the work); the ties are given (YtbglmcebkpkccaaGreatDoorTie.lean); close each card by the builder's one call (the guide's Derived/Test/ToyasCard.lean, 'card_holds'). Laid BY PROGRAM, IN A SANDBOX (cutbox-door.mjs). By AI agents, Wed Nov 11 2026. No macro, syntax, notation, axiom, sorry.
-/
import Derived.Test.YtbglmcebkpkccaaGreatDoorRows
import GoSem.ClaimSeven
namespace Go.Proofs.YtbglmcebkpkccaaGreatDoor
namespace Rows

/-- THE TIED CARD OF 'trommellaw29.CostSizes'. -/
def costSizesCard : Claim7 := { stood := { row := costSizesRow, standIns := [], harness := (true, "3803dd5eadb1622ac1cf9f762e3c69a7ba13d79eecce88738eed1112e3ea3d3e"), looks := false }, kinds := [], alts := [], laidByText := true, laidKinds := [.data], laidTests := true, laidLooks := .later }
def CostSizesCardSaid : Prop := Claim7.holds Tryz.pinned (.plain (OpenSpec.ofChange costSizesSpec)) costSizesCard

/-- THE TIED CARD OF 'trommellaw30.OrderCosts'. -/
def orderCostsCard : Claim7 := { stood := { row := orderCostsRow, standIns := [], harness := (true, "3803dd5eadb1622ac1cf9f762e3c69a7ba13d79eecce88738eed1112e3ea3d3e"), looks := false }, kinds := [], alts := [], laidByText := true, laidKinds := [.data], laidTests := true, laidLooks := .later }
def OrderCostsCardSaid : Prop := Claim7.holds Tryz.pinned (.plain (OpenSpec.ofChange orderCostsSpec)) orderCostsCard

/-- THE TIED CARD OF 'trommellaw30.OrderBests'. -/
def orderBestsCard : Claim7 := { stood := { row := orderBestsRow, standIns := [], harness := (true, "3803dd5eadb1622ac1cf9f762e3c69a7ba13d79eecce88738eed1112e3ea3d3e"), looks := false }, kinds := [], alts := [], laidByText := true, laidKinds := [.data], laidTests := true, laidLooks := .later }
def OrderBestsCardSaid : Prop := Claim7.holds Tryz.pinned (.plain (OpenSpec.ofChange orderBestsSpec)) orderBestsCard

/-- THE TIED CARD OF 'trommellaw30.OrderGreedy'. -/
def orderGreedyCard : Claim7 := { stood := { row := orderGreedyRow, standIns := [], harness := (true, "3803dd5eadb1622ac1cf9f762e3c69a7ba13d79eecce88738eed1112e3ea3d3e"), looks := false }, kinds := [], alts := [], laidByText := true, laidKinds := [.data], laidTests := true, laidLooks := .later }
def OrderGreedyCardSaid : Prop := Claim7.holds Tryz.pinned (.plain (OpenSpec.ofChange orderGreedySpec)) orderGreedyCard

/-- THE SECOND FORM's CARD OF 'trommellaw29.CostSizes'. -/
def costSizesUptoCard : Claim7 := { stood := { row := costSizesUptoRow, standIns := [], harness := (true, "3803dd5eadb1622ac1cf9f762e3c69a7ba13d79eecce88738eed1112e3ea3d3e"), looks := false }, kinds := [], alts := [], laidByText := true, laidKinds := [.data], laidTests := true, laidLooks := .later }
def CostSizesUptoCardSaid : Prop := Claim7.holds Tryz.pinned (.plain (OpenSpec.upto costSizesSpec)) costSizesUptoCard

/-- THE SECOND FORM's CARD OF 'trommellaw30.OrderCosts'. -/
def orderCostsUptoCard : Claim7 := { stood := { row := orderCostsUptoRow, standIns := [], harness := (true, "3803dd5eadb1622ac1cf9f762e3c69a7ba13d79eecce88738eed1112e3ea3d3e"), looks := false }, kinds := [], alts := [], laidByText := true, laidKinds := [.data], laidTests := true, laidLooks := .later }
def OrderCostsUptoCardSaid : Prop := Claim7.holds Tryz.pinned (.plain (OpenSpec.upto orderCostsSpec)) orderCostsUptoCard

/-- THE SECOND FORM's CARD OF 'trommellaw30.OrderBests'. -/
def orderBestsUptoCard : Claim7 := { stood := { row := orderBestsUptoRow, standIns := [], harness := (true, "3803dd5eadb1622ac1cf9f762e3c69a7ba13d79eecce88738eed1112e3ea3d3e"), looks := false }, kinds := [], alts := [], laidByText := true, laidKinds := [.data], laidTests := true, laidLooks := .later }
def OrderBestsUptoCardSaid : Prop := Claim7.holds Tryz.pinned (.plain (OpenSpec.upto orderBestsSpec)) orderBestsUptoCard

/-- THE SECOND FORM's CARD OF 'trommellaw30.OrderGreedy'. -/
def orderGreedyUptoCard : Claim7 := { stood := { row := orderGreedyUptoRow, standIns := [], harness := (true, "3803dd5eadb1622ac1cf9f762e3c69a7ba13d79eecce88738eed1112e3ea3d3e"), looks := false }, kinds := [], alts := [], laidByText := true, laidKinds := [.data], laidTests := true, laidLooks := .later }
def OrderGreedyUptoCardSaid : Prop := Claim7.holds Tryz.pinned (.plain (OpenSpec.upto orderGreedySpec)) orderGreedyUptoCard
end Rows
end Go.Proofs.YtbglmcebkpkccaaGreatDoor
