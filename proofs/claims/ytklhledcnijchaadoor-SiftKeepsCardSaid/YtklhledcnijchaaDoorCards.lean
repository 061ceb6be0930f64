/-
  DERIVED. GIVEN WITH THE SEED: THE CARDS: each row of YtklhledcnijchaaDoorRows.lean that lists a variable, with what it lists TIED to the program's text (the seventh form; the later family's looks); each row that meets fmt, with fmt's text TOLD by the authors' own Lean function (tested against real Go, not proved from fmt's source: count such statements apart). THE CARD IS WHAT COUNTS. Prove the row's statement (the work); the ties are given (YtklhledcnijchaaDoorTie.lean); close each card by the builder's one call (the guide's Derived/Test/ToyasCard.lean, 'card_holds'). Laid BY PROGRAM, IN A SANDBOX (cutbox-door.mjs). By AI agents, Wed Nov 11 2026. No macro, syntax, notation, axiom, sorry.
-/
import Derived.Test.YtklhledcnijchaaDoorRows
import GoSem.ClaimSeven
namespace Go.Proofs.YtklhledcnijchaaDoor
namespace Rows

/-- THE TIED CARD OF 'trommellaw04.RowsTwo'. -/
def rowsTwoCard : Claim7 := { stood := { row := rowsTwoRow, standIns := [], harness := (true, "62f77e6609a3b074cfe6888507b17c646aeb202f5ff98d30075b8d8c50c6a5e1"), looks := false }, kinds := [], alts := [], laidByText := true, laidKinds := [.data, .data, .data], laidTests := true, laidLooks := .later }
def RowsTwoCardSaid : Prop := Claim7.holds Tryd.pinned (.plain (OpenSpec.ofChange rowsTwoSpec)) rowsTwoCard

/-- THE TIED CARD OF 'trommellaw04.RowsParts'. -/
def rowsPartsCard : Claim7 := { stood := { row := rowsPartsRow, standIns := [], harness := (true, "62f77e6609a3b074cfe6888507b17c646aeb202f5ff98d30075b8d8c50c6a5e1"), looks := false }, kinds := [], alts := [], laidByText := true, laidKinds := [.data, .data, .data], laidTests := true, laidLooks := .later }
def RowsPartsCardSaid : Prop := Claim7.holds Tryd.pinned (.plain (OpenSpec.ofChange rowsPartsSpec)) rowsPartsCard

/-- THE TIED CARD OF 'trommellaw04.RowsSorts'. -/
def rowsSortsCard : Claim7 := { stood := { row := rowsSortsRow, standIns := [], harness := (true, "62f77e6609a3b074cfe6888507b17c646aeb202f5ff98d30075b8d8c50c6a5e1"), looks := false }, kinds := [], alts := [], laidByText := true, laidKinds := [.data, .data, .data], laidTests := true, laidLooks := .later }
def RowsSortsCardSaid : Prop := Claim7.holds Tryd.pinned (.plain (OpenSpec.ofChange rowsSortsSpec)) rowsSortsCard

/-- THE TIED CARD OF 'trommellaw20.SiftZeros'. -/
def siftZerosCard : Claim7 := { stood := { row := siftZerosRow, standIns := [], harness := (true, "62f77e6609a3b074cfe6888507b17c646aeb202f5ff98d30075b8d8c50c6a5e1"), looks := false }, kinds := [], alts := [], laidByText := true, laidKinds := [.data, .data, .data], laidTests := true, laidLooks := .later }
def SiftZerosCardSaid : Prop := Claim7.holds Tryd.pinned (.plain (OpenSpec.ofChange siftZerosSpec)) siftZerosCard

/-- THE TIED CARD OF 'trommellaw20.SiftKeeps'. -/
def siftKeepsCard : Claim7 := { stood := { row := siftKeepsRow, standIns := [], harness := (true, "62f77e6609a3b074cfe6888507b17c646aeb202f5ff98d30075b8d8c50c6a5e1"), looks := false }, kinds := [], alts := [], laidByText := true, laidKinds := [.data, .data, .data], laidTests := true, laidLooks := .later }
def SiftKeepsCardSaid : Prop := Claim7.holds Tryd.pinned (.plain (OpenSpec.ofChange siftKeepsSpec)) siftKeepsCard

/-- THE SECOND FORM's CARD OF 'trommellaw04.RowsTwo'. -/
def rowsTwoUptoCard : Claim7 := { stood := { row := rowsTwoUptoRow, standIns := [], harness := (true, "62f77e6609a3b074cfe6888507b17c646aeb202f5ff98d30075b8d8c50c6a5e1"), looks := false }, kinds := [], alts := [], laidByText := true, laidKinds := [.data, .data, .data], laidTests := true, laidLooks := .later }
def RowsTwoUptoCardSaid : Prop := Claim7.holds Tryd.pinned (.plain (OpenSpec.upto rowsTwoSpec)) rowsTwoUptoCard

/-- THE SECOND FORM's CARD OF 'trommellaw04.RowsParts'. -/
def rowsPartsUptoCard : Claim7 := { stood := { row := rowsPartsUptoRow, standIns := [], harness := (true, "62f77e6609a3b074cfe6888507b17c646aeb202f5ff98d30075b8d8c50c6a5e1"), looks := false }, kinds := [], alts := [], laidByText := true, laidKinds := [.data, .data, .data], laidTests := true, laidLooks := .later }
def RowsPartsUptoCardSaid : Prop := Claim7.holds Tryd.pinned (.plain (OpenSpec.upto rowsPartsSpec)) rowsPartsUptoCard

/-- THE SECOND FORM's CARD OF 'trommellaw04.RowsSorts'. -/
def rowsSortsUptoCard : Claim7 := { stood := { row := rowsSortsUptoRow, standIns := [], harness := (true, "62f77e6609a3b074cfe6888507b17c646aeb202f5ff98d30075b8d8c50c6a5e1"), looks := false }, kinds := [], alts := [], laidByText := true, laidKinds := [.data, .data, .data], laidTests := true, laidLooks := .later }
def RowsSortsUptoCardSaid : Prop := Claim7.holds Tryd.pinned (.plain (OpenSpec.upto rowsSortsSpec)) rowsSortsUptoCard

/-- THE SECOND FORM's CARD OF 'trommellaw20.SiftZeros'. -/
def siftZerosUptoCard : Claim7 := { stood := { row := siftZerosUptoRow, standIns := [], harness := (true, "62f77e6609a3b074cfe6888507b17c646aeb202f5ff98d30075b8d8c50c6a5e1"), looks := false }, kinds := [], alts := [], laidByText := true, laidKinds := [.data, .data, .data], laidTests := true, laidLooks := .later }
def SiftZerosUptoCardSaid : Prop := Claim7.holds Tryd.pinned (.plain (OpenSpec.upto siftZerosSpec)) siftZerosUptoCard

/-- THE SECOND FORM's CARD OF 'trommellaw20.SiftKeeps'. -/
def siftKeepsUptoCard : Claim7 := { stood := { row := siftKeepsUptoRow, standIns := [], harness := (true, "62f77e6609a3b074cfe6888507b17c646aeb202f5ff98d30075b8d8c50c6a5e1"), looks := false }, kinds := [], alts := [], laidByText := true, laidKinds := [.data, .data, .data], laidTests := true, laidLooks := .later }
def SiftKeepsUptoCardSaid : Prop := Claim7.holds Tryd.pinned (.plain (OpenSpec.upto siftKeepsSpec)) siftKeepsUptoCard
end Rows
end Go.Proofs.YtklhledcnijchaaDoor
