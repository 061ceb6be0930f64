/-
  DERIVED. GIVEN WITH THE SEED: THE CARDS: each row of YtanljiokoehlaaaDoorRows.lean that lists a variable, with what it lists TIED to the program's text (the seventh form; the later family's looks); each row that meets fmt, with fmt's text TOLD by the authors' own Lean function (tested against real Go, not proved from fmt's source: count such statements apart). THE CARD IS WHAT COUNTS. Prove the row's statement (the work); the ties are given (YtanljiokoehlaaaDoorTie.lean); close each card by the builder's one call (the guide's Derived/Test/ToyasCard.lean, 'card_holds'). Laid BY PROGRAM, IN A SANDBOX (cutbox-door.mjs). By AI agents, Wed Nov 11 2026. No macro, syntax, notation, axiom, sorry.
-/
import Derived.Test.YtanljiokoehlaaaDoorRows
import GoSem.ClaimSeven
namespace Go.Proofs.YtanljiokoehlaaaDoor
namespace Rows

/-- THE TIED CARD OF 'trommellaw17.HashVals'. -/
def hashValsCard : Claim7 := { stood := { row := hashValsRow, standIns := [], harness := (true, "ab53572d1b3af84ffeb340160d6724f7db0263e686c3924a84753e7e68788dc8"), looks := false }, kinds := [], alts := [], laidByText := true, laidKinds := [.data, .data, .data], laidTests := true, laidLooks := .later }
def HashValsCardSaid : Prop := Claim7.holds Tryd.pinned (.plain (OpenSpec.ofChange hashValsSpec)) hashValsCard

/-- THE TIED CARD OF 'trommellaw04.RowsTwo'. -/
def rowsTwoCard : Claim7 := { stood := { row := rowsTwoRow, standIns := [], harness := (true, "ab53572d1b3af84ffeb340160d6724f7db0263e686c3924a84753e7e68788dc8"), looks := false }, kinds := [], alts := [], laidByText := true, laidKinds := [.data, .data, .data], laidTests := true, laidLooks := .later }
def RowsTwoCardSaid : Prop := Claim7.holds Tryd.pinned (.plain (OpenSpec.ofChange rowsTwoSpec)) rowsTwoCard

/-- THE SECOND FORM's CARD OF 'trommellaw17.HashVals'. -/
def hashValsUptoCard : Claim7 := { stood := { row := hashValsUptoRow, standIns := [], harness := (true, "ab53572d1b3af84ffeb340160d6724f7db0263e686c3924a84753e7e68788dc8"), looks := false }, kinds := [], alts := [], laidByText := true, laidKinds := [.data, .data, .data], laidTests := true, laidLooks := .later }
def HashValsUptoCardSaid : Prop := Claim7.holds Tryd.pinned (.plain (OpenSpec.upto hashValsSpec)) hashValsUptoCard

/-- THE SECOND FORM's CARD OF 'trommellaw04.RowsTwo'. -/
def rowsTwoUptoCard : Claim7 := { stood := { row := rowsTwoUptoRow, standIns := [], harness := (true, "ab53572d1b3af84ffeb340160d6724f7db0263e686c3924a84753e7e68788dc8"), looks := false }, kinds := [], alts := [], laidByText := true, laidKinds := [.data, .data, .data], laidTests := true, laidLooks := .later }
def RowsTwoUptoCardSaid : Prop := Claim7.holds Tryd.pinned (.plain (OpenSpec.upto rowsTwoSpec)) rowsTwoUptoCard
end Rows
end Go.Proofs.YtanljiokoehlaaaDoor
