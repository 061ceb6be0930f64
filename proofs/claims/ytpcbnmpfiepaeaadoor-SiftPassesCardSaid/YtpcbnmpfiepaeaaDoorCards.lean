/-
  DERIVED. GIVEN WITH THE SEED: THE CARDS: each row of YtpcbnmpfiepaeaaDoorRows.lean that lists a variable, with what it lists TIED to the program's text (the seventh form; the later family's looks); each row that meets fmt, with fmt's text TOLD by the authors' own Lean function (tested against real Go, not proved from fmt's source: count such statements apart). THE CARD IS WHAT COUNTS. Prove the row's statement (the work); the ties are given (YtpcbnmpfiepaeaaDoorTie.lean); close each card by the builder's one call (the guide's Derived/Test/ToyasCard.lean, 'card_holds'). Laid BY PROGRAM, IN A SANDBOX (cutbox-door.mjs). By AI agents, Wed Nov 11 2026. No macro, syntax, notation, axiom, sorry.
-/
import Derived.Test.YtpcbnmpfiepaeaaDoorRows
import GoSem.ClaimSeven
namespace Go.Proofs.YtpcbnmpfiepaeaaDoor
namespace Rows

/-- THE TIED CARD OF 'trommellaw20.SiftPasses'. -/
def siftPassesCard : Claim7 := { stood := { row := siftPassesRow, standIns := [], harness := (true, "478a98e2a5c463f226e884fa4179c870f21ab4f62a8810397a3135d25d1cf694"), looks := false }, kinds := [], alts := [], laidByText := true, laidKinds := [.data, .data, .data], laidTests := true, laidLooks := .later }
def SiftPassesCardSaid : Prop := Claim7.holds Tryd.pinned (.plain (OpenSpec.ofChange siftPassesSpec)) siftPassesCard

/-- THE SECOND FORM's CARD OF 'trommellaw20.SiftPasses'. -/
def siftPassesUptoCard : Claim7 := { stood := { row := siftPassesUptoRow, standIns := [], harness := (true, "478a98e2a5c463f226e884fa4179c870f21ab4f62a8810397a3135d25d1cf694"), looks := false }, kinds := [], alts := [], laidByText := true, laidKinds := [.data, .data, .data], laidTests := true, laidLooks := .later }
def SiftPassesUptoCardSaid : Prop := Claim7.holds Tryd.pinned (.plain (OpenSpec.upto siftPassesSpec)) siftPassesUptoCard
end Rows
end Go.Proofs.YtpcbnmpfiepaeaaDoor
