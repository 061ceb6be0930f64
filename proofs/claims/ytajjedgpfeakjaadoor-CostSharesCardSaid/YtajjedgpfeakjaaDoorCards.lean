/-
  DERIVED. GIVEN WITH THE SEED: THE CARDS: each row of YtajjedgpfeakjaaDoorRows.lean that lists a variable, with what it lists TIED to the program's text (the seventh form; the later family's looks); each row that meets fmt, with fmt's text TOLD by the authors' own Lean function (tested against real Go, not proved from fmt's source: count such statements apart). THE CARD IS WHAT COUNTS. Prove the row's statement (the work); the ties are given (YtajjedgpfeakjaaDoorTie.lean); close each card by the builder's one call (the guide's Derived/Test/ToyasCard.lean, 'card_holds'). Laid BY PROGRAM, IN A SANDBOX (cutbox-door.mjs). By AI agents, Wed Nov 11 2026. No macro, syntax, notation, axiom, sorry.
-/
import Derived.Test.YtajjedgpfeakjaaDoorRows
import GoSem.ClaimSeven
namespace Go.Proofs.YtajjedgpfeakjaaDoor
namespace Rows

/-- THE TIED CARD OF 'trommellaw29.CostShares'. -/
def costSharesCard : Claim7 := { stood := { row := costSharesRow, standIns := [], harness := (true, "67618e6614d4f62790c2aaf260e6098d0f7cfe40afd645a7999994b487897758"), looks := false }, kinds := [], alts := [], laidByText := true, laidKinds := [.data], laidTests := true, laidLooks := .later }
def CostSharesCardSaid : Prop := Claim7.holds Tryd.pinned (.plain (OpenSpec.ofChange costSharesSpec)) costSharesCard

/-- THE SECOND FORM's CARD OF 'trommellaw29.CostShares'. -/
def costSharesUptoCard : Claim7 := { stood := { row := costSharesUptoRow, standIns := [], harness := (true, "67618e6614d4f62790c2aaf260e6098d0f7cfe40afd645a7999994b487897758"), looks := false }, kinds := [], alts := [], laidByText := true, laidKinds := [.data], laidTests := true, laidLooks := .later }
def CostSharesUptoCardSaid : Prop := Claim7.holds Tryd.pinned (.plain (OpenSpec.upto costSharesSpec)) costSharesUptoCard
end Rows
end Go.Proofs.YtajjedgpfeakjaaDoor
