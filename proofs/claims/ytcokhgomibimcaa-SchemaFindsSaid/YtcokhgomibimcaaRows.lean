/-
  NARROWER THAN 'FOR EVERY INPUT', by the rows' own cells (each row's printed sentence says how): TreeTells: loops · TreeSames: loops · TreeQueries: loops · ReadyBounds: loops · ReadyTells: loops.
  DERIVED. THE GIVEN ROWS OF THIS SEAT. 12 by the template 'for every input the law returns true; each argument reads behind the call as it read before'; 0 by the template 'total and deterministic' (their statements: YtcokhgomibimcaaTotals.lean).
  GIVEN WITH THE SEED: the statements are not yours to turn. If you find one false, say at which input.
  Laid BY PROGRAM, IN A SANDBOX (cutbox-rows.mjs): the forced cells as the released guide's own fill.sh prints them over the translation 639983498dd29751… (all of the seat's roots in one cut). By AI agents, Wed Nov 11 2026. No macro, syntax, notation, axiom, sorry.
-/
import Derived.Test.YtcokhgomibimcaaChecked
import GoSem.Claim
import GoSem.ClaimJoined
import GoSem.ClaimMapViews
import Derived.JoinedTies
import Derived.KernelRfl
namespace Go.Proofs.Ytcokhgomibimcaa
/- THE CELL 'sum', in the pinned program and in every row, IS THE sha256 OF THE DUMP (.gsa) THAT YtcokhgomibimcaaProg.lean LOADS. Nothing in Lean hashes anything: it is a label: what it is worth is what the hold of that sum in a sandbox is worth. -/
noncomputable def Try.pinned : Pinned := { name := "ytcokhgomibimcaa", sum := "639983498dd2975186d2e62c6aa2e82f0cd1a01275095021321c33e87698471d", checked := Try.checked }
namespace Rows
def none {H : Type} : Left H := { results := [], args := [] }

/-- 'trommellaw39.CodeInts': WHATEVER THE INPUT: true; the input reads as it did. -/
def codeIntsSpec : ChangeSpec := { name := "codeInts", fn := fun _ => fun
  | [d1, d2, d3, d4] => { results := [.lit (.bool true)], args := [d1, d2, d3, d4] }
  | _ => none }
def codeIntsRow : OpenClaim := { program := "ytcokhgomibimcaa", sum := "639983498dd2975186d2e62c6aa2e82f0cd1a01275095021321c33e87698471d", func := "trommel/trommellaw39.CodeInts", spec := "codeInts", apart := false }
def CodeIntsSaid : Prop := codeIntsRow.holds Try.pinned (OpenSpec.ofChange codeIntsSpec)

/-- ITS FALSE NEIGHBOUR: 'it returns false'. Refute it at one input. -/
def codeIntsWrong : ChangeSpec := { name := "codeInts", fn := fun _ => fun
  | [d1, d2, d3, d4] => { results := [.lit (.bool false)], args := [d1, d2, d3, d4] }
  | _ => none }
def CodeIntsWrongFalsely : Prop := codeIntsRow.holds Try.pinned (OpenSpec.ofChange codeIntsWrong)

/-- 'trommellaw39.CodePuts': WHATEVER THE INPUT: true; the input reads as it did. -/
def codePutsSpec : ChangeSpec := { name := "codePuts", fn := fun _ => fun
  | [d] => { results := [.lit (.bool true)], args := [d] }
  | _ => none }
def codePutsRow : OpenClaim := { program := "ytcokhgomibimcaa", sum := "639983498dd2975186d2e62c6aa2e82f0cd1a01275095021321c33e87698471d", func := "trommel/trommellaw39.CodePuts", spec := "codePuts", apart := false }
def CodePutsSaid : Prop := codePutsRow.holds Try.pinned (OpenSpec.ofChange codePutsSpec)

/-- ITS FALSE NEIGHBOUR: 'it returns false'. Refute it at one input. -/
def codePutsWrong : ChangeSpec := { name := "codePuts", fn := fun _ => fun
  | [d] => { results := [.lit (.bool false)], args := [d] }
  | _ => none }
def CodePutsWrongFalsely : Prop := codePutsRow.holds Try.pinned (OpenSpec.ofChange codePutsWrong)

/-- 'trommellaw39.CodeGets': WHATEVER THE INPUT: true; the input reads as it did. -/
def codeGetsSpec : ChangeSpec := { name := "codeGets", fn := fun _ => fun
  | [d] => { results := [.lit (.bool true)], args := [d] }
  | _ => none }
def codeGetsRow : OpenClaim := { program := "ytcokhgomibimcaa", sum := "639983498dd2975186d2e62c6aa2e82f0cd1a01275095021321c33e87698471d", func := "trommel/trommellaw39.CodeGets", spec := "codeGets", apart := false }
def CodeGetsSaid : Prop := codeGetsRow.holds Try.pinned (OpenSpec.ofChange codeGetsSpec)

/-- ITS FALSE NEIGHBOUR: 'it returns false'. Refute it at one input. -/
def codeGetsWrong : ChangeSpec := { name := "codeGets", fn := fun _ => fun
  | [d] => { results := [.lit (.bool false)], args := [d] }
  | _ => none }
def CodeGetsWrongFalsely : Prop := codeGetsRow.holds Try.pinned (OpenSpec.ofChange codeGetsWrong)

/-- 'trommellaw08.TreeTells': WHATEVER THE INPUT: true; the input reads as it did. -/
def treeTellsSpec : ChangeSpec := { name := "treeTells", fn := fun _ => fun
  | [d1, d2] => { results := [.lit (.bool true)], args := [d1, d2] }
  | _ => none }
def treeTellsRow : OpenClaim := { program := "ytcokhgomibimcaa", sum := "639983498dd2975186d2e62c6aa2e82f0cd1a01275095021321c33e87698471d", func := "trommel/trommellaw08.TreeTells", spec := "treeTells", unfollowed := true, recurses := true, loops := true, apart := false }
def TreeTellsSaid : Prop := treeTellsRow.holds Try.pinned (OpenSpec.ofChange treeTellsSpec)

/-- ITS FALSE NEIGHBOUR: 'it returns false'. Refute it at one input. -/
def treeTellsWrong : ChangeSpec := { name := "treeTells", fn := fun _ => fun
  | [d1, d2] => { results := [.lit (.bool false)], args := [d1, d2] }
  | _ => none }
def TreeTellsWrongFalsely : Prop := treeTellsRow.holds Try.pinned (OpenSpec.ofChange treeTellsWrong)

/-- 'trommellaw08.TreeSames': WHATEVER THE INPUT: true; the input reads as it did. -/
def treeSamesSpec : ChangeSpec := { name := "treeSames", fn := fun _ => fun
  | [d1, d2] => { results := [.lit (.bool true)], args := [d1, d2] }
  | _ => none }
def treeSamesRow : OpenClaim := { program := "ytcokhgomibimcaa", sum := "639983498dd2975186d2e62c6aa2e82f0cd1a01275095021321c33e87698471d", func := "trommel/trommellaw08.TreeSames", spec := "treeSames", unfollowed := true, recurses := true, loops := true, apart := false }
def TreeSamesSaid : Prop := treeSamesRow.holds Try.pinned (OpenSpec.ofChange treeSamesSpec)

/-- ITS FALSE NEIGHBOUR: 'it returns false'. Refute it at one input. -/
def treeSamesWrong : ChangeSpec := { name := "treeSames", fn := fun _ => fun
  | [d1, d2] => { results := [.lit (.bool false)], args := [d1, d2] }
  | _ => none }
def TreeSamesWrongFalsely : Prop := treeSamesRow.holds Try.pinned (OpenSpec.ofChange treeSamesWrong)

/-- 'trommellaw08.TreeQueries': WHATEVER THE INPUT: true; the input reads as it did. -/
def treeQueriesSpec : ChangeSpec := { name := "treeQueries", fn := fun _ => fun
  | [d1, d2, d3, d4, d5, d6] => { results := [.lit (.bool true)], args := [d1, d2, d3, d4, d5, d6] }
  | _ => none }
def treeQueriesRow : OpenClaim := { program := "ytcokhgomibimcaa", sum := "639983498dd2975186d2e62c6aa2e82f0cd1a01275095021321c33e87698471d", func := "trommel/trommellaw08.TreeQueries", spec := "treeQueries", unfollowed := true, recurses := true, loops := true, apart := false }
def TreeQueriesSaid : Prop := treeQueriesRow.holds Try.pinned (OpenSpec.ofChange treeQueriesSpec)

/-- ITS FALSE NEIGHBOUR: 'it returns false'. Refute it at one input. -/
def treeQueriesWrong : ChangeSpec := { name := "treeQueries", fn := fun _ => fun
  | [d1, d2, d3, d4, d5, d6] => { results := [.lit (.bool false)], args := [d1, d2, d3, d4, d5, d6] }
  | _ => none }
def TreeQueriesWrongFalsely : Prop := treeQueriesRow.holds Try.pinned (OpenSpec.ofChange treeQueriesWrong)

/-- 'trommellaw05.SchemaChecks': WHATEVER THE INPUT: true; the input reads as it did. -/
def schemaChecksSpec : ChangeSpec := { name := "schemaChecks", fn := fun _ => fun
  | [d] => { results := [.lit (.bool true)], args := [d] }
  | _ => none }
def schemaChecksRow : OpenClaim := { program := "ytcokhgomibimcaa", sum := "639983498dd2975186d2e62c6aa2e82f0cd1a01275095021321c33e87698471d", func := "trommel/trommellaw05.SchemaChecks", spec := "schemaChecks", unfollowed := true, recurses := true, apart := false }
def SchemaChecksSaid : Prop := schemaChecksRow.holds Try.pinned (OpenSpec.ofChange schemaChecksSpec)

/-- ITS FALSE NEIGHBOUR: 'it returns false'. Refute it at one input. -/
def schemaChecksWrong : ChangeSpec := { name := "schemaChecks", fn := fun _ => fun
  | [d] => { results := [.lit (.bool false)], args := [d] }
  | _ => none }
def SchemaChecksWrongFalsely : Prop := schemaChecksRow.holds Try.pinned (OpenSpec.ofChange schemaChecksWrong)

/-- 'trommellaw05.SchemaFinds': WHATEVER THE INPUT: true; the input reads as it did. -/
def schemaFindsSpec : ChangeSpec := { name := "schemaFinds", fn := fun _ => fun
  | [d1, d2, d3, d4] => { results := [.lit (.bool true)], args := [d1, d2, d3, d4] }
  | _ => none }
def schemaFindsRow : OpenClaim := { program := "ytcokhgomibimcaa", sum := "639983498dd2975186d2e62c6aa2e82f0cd1a01275095021321c33e87698471d", func := "trommel/trommellaw05.SchemaFinds", spec := "schemaFinds", unfollowed := true, recurses := true, apart := false }
def SchemaFindsSaid : Prop := schemaFindsRow.holds Try.pinned (OpenSpec.ofChange schemaFindsSpec)

/-- ITS FALSE NEIGHBOUR: 'it returns false'. Refute it at one input. -/
def schemaFindsWrong : ChangeSpec := { name := "schemaFinds", fn := fun _ => fun
  | [d1, d2, d3, d4] => { results := [.lit (.bool false)], args := [d1, d2, d3, d4] }
  | _ => none }
def SchemaFindsWrongFalsely : Prop := schemaFindsRow.holds Try.pinned (OpenSpec.ofChange schemaFindsWrong)

/-- 'trommellaw27.HistMarks': WHATEVER THE INPUT: true; the input reads as it did. -/
def histMarksSpec : ChangeSpec := { name := "histMarks", fn := fun _ => fun
  | [d1, d2] => { results := [.lit (.bool true)], args := [d1, d2] }
  | _ => none }
def histMarksRow : OpenClaim := { program := "ytcokhgomibimcaa", sum := "639983498dd2975186d2e62c6aa2e82f0cd1a01275095021321c33e87698471d", func := "trommel/trommellaw27.HistMarks", spec := "histMarks", unfollowed := true, recurses := true, apart := false }
def HistMarksSaid : Prop := histMarksRow.holds Try.pinned (OpenSpec.ofChange histMarksSpec)

/-- ITS FALSE NEIGHBOUR: 'it returns false'. Refute it at one input. -/
def histMarksWrong : ChangeSpec := { name := "histMarks", fn := fun _ => fun
  | [d1, d2] => { results := [.lit (.bool false)], args := [d1, d2] }
  | _ => none }
def HistMarksWrongFalsely : Prop := histMarksRow.holds Try.pinned (OpenSpec.ofChange histMarksWrong)

/-- 'trommellaw27.HistHeld': WHATEVER THE INPUT: true; the input reads as it did. -/
def histHeldSpec : ChangeSpec := { name := "histHeld", fn := fun _ => fun
  | [d1, d2, d3] => { results := [.lit (.bool true)], args := [d1, d2, d3] }
  | _ => none }
def histHeldRow : OpenClaim := { program := "ytcokhgomibimcaa", sum := "639983498dd2975186d2e62c6aa2e82f0cd1a01275095021321c33e87698471d", func := "trommel/trommellaw27.HistHeld", spec := "histHeld", unfollowed := true, recurses := true, apart := false }
def HistHeldSaid : Prop := histHeldRow.holds Try.pinned (OpenSpec.ofChange histHeldSpec)

/-- ITS FALSE NEIGHBOUR: 'it returns false'. Refute it at one input. -/
def histHeldWrong : ChangeSpec := { name := "histHeld", fn := fun _ => fun
  | [d1, d2, d3] => { results := [.lit (.bool false)], args := [d1, d2, d3] }
  | _ => none }
def HistHeldWrongFalsely : Prop := histHeldRow.holds Try.pinned (OpenSpec.ofChange histHeldWrong)

/-- 'trommellaw33.ReadyBounds': WHATEVER THE INPUT: true; the input reads as it did. -/
def readyBoundsSpec : ChangeSpec := { name := "readyBounds", fn := fun _ => fun
  | [d1, d2, d3, d4] => { results := [.lit (.bool true)], args := [d1, d2, d3, d4] }
  | _ => none }
def readyBoundsRow : OpenClaim := { program := "ytcokhgomibimcaa", sum := "639983498dd2975186d2e62c6aa2e82f0cd1a01275095021321c33e87698471d", func := "trommel/trommellaw33.ReadyBounds", spec := "readyBounds", unfollowed := true, recurses := true, loops := true, apart := false }
def ReadyBoundsSaid : Prop := readyBoundsRow.holds Try.pinned (OpenSpec.ofChange readyBoundsSpec)

/-- ITS FALSE NEIGHBOUR: 'it returns false'. Refute it at one input. -/
def readyBoundsWrong : ChangeSpec := { name := "readyBounds", fn := fun _ => fun
  | [d1, d2, d3, d4] => { results := [.lit (.bool false)], args := [d1, d2, d3, d4] }
  | _ => none }
def ReadyBoundsWrongFalsely : Prop := readyBoundsRow.holds Try.pinned (OpenSpec.ofChange readyBoundsWrong)

/-- 'trommellaw33.ReadyTells': WHATEVER THE INPUT: true; the input reads as it did. -/
def readyTellsSpec : ChangeSpec := { name := "readyTells", fn := fun _ => fun
  | [d1, d2, d3] => { results := [.lit (.bool true)], args := [d1, d2, d3] }
  | _ => none }
def readyTellsRow : OpenClaim := { program := "ytcokhgomibimcaa", sum := "639983498dd2975186d2e62c6aa2e82f0cd1a01275095021321c33e87698471d", func := "trommel/trommellaw33.ReadyTells", spec := "readyTells", loops := true, apart := false }
def ReadyTellsSaid : Prop := readyTellsRow.holds Try.pinned (OpenSpec.ofChange readyTellsSpec)

/-- ITS FALSE NEIGHBOUR: 'it returns false'. Refute it at one input. -/
def readyTellsWrong : ChangeSpec := { name := "readyTells", fn := fun _ => fun
  | [d1, d2, d3] => { results := [.lit (.bool false)], args := [d1, d2, d3] }
  | _ => none }
def ReadyTellsWrongFalsely : Prop := readyTellsRow.holds Try.pinned (OpenSpec.ofChange readyTellsWrong)

/- THE SECOND FORM. 'bulk': how many values and letters a reading holds, each counted each time it is reached (what is shared counts as often as it is met; a slice's spare places count too). A statement '..UptoSaid' is the law's where the arguments, and the package variables that the reading takes, are together of bulk at most 1048576: NARROWER than '..Said'. Prove '..Said' where nothing that the law and all that it calls make is longer than what came in: it says more and counts as full. Else prove '..UptoSaid'. A law counts once. -/
mutual
def uptoBulk {H : Type} : DataW H → Nat
  | .lit (.string bytes) => bytes.length + 1
  | .lit _ => 1
  | .nil => 1
  | .ptr d => uptoBulk d + 1
  | .slice elems spare => uptoBulkAll elems + uptoBulkAll spare + 1
  | .agg parts => uptoBulkAll parts + 1
  | .iface _ d => uptoBulk d + 1
  | .map entries => uptoBulkEntries entries + 1
  | .held _ => 1
def uptoBulkAll {H : Type} : List (DataW H) → Nat
  | [] => 0
  | d :: r => uptoBulk d + uptoBulkAll r
def uptoBulkEntries {H : Type} : List (Lit × DataW H) → Nat
  | [] => 0
  | x :: r => uptoBulkEntry x + uptoBulkEntries r
def uptoBulkEntry {H : Type} : Lit × DataW H → Nat
  | (.string bytes, d) => bytes.length + uptoBulk d + 1
  | (_, d) => uptoBulk d + 1
 end
def uptoSmall : (H : Type) → List (DataW H) → Bool := fun _ ds => decide (uptoBulkAll ds ≤ 1048576)
def OpenSpec.upto (s : _root_.Go.ChangeSpec) : _root_.Go.OpenSpec := { _root_.Go.OpenSpec.ofChange s with cond := some uptoSmall }

/-- 'trommellaw39.CodeInts', WHERE WHAT IT READS IS OF BULK AT MOST 1048576: true; the input reads as it did. -/
def codeIntsUptoRow : OpenClaim := { program := "ytcokhgomibimcaa", sum := "639983498dd2975186d2e62c6aa2e82f0cd1a01275095021321c33e87698471d", func := "trommel/trommellaw39.CodeInts", spec := "codeInts", apart := false, narrowed := true }
def CodeIntsUptoSaid : Prop := codeIntsUptoRow.holds Try.pinned (OpenSpec.upto codeIntsSpec)

/-- 'trommellaw39.CodePuts', WHERE WHAT IT READS IS OF BULK AT MOST 1048576: true; the input reads as it did. -/
def codePutsUptoRow : OpenClaim := { program := "ytcokhgomibimcaa", sum := "639983498dd2975186d2e62c6aa2e82f0cd1a01275095021321c33e87698471d", func := "trommel/trommellaw39.CodePuts", spec := "codePuts", apart := false, narrowed := true }
def CodePutsUptoSaid : Prop := codePutsUptoRow.holds Try.pinned (OpenSpec.upto codePutsSpec)

/-- 'trommellaw39.CodeGets', WHERE WHAT IT READS IS OF BULK AT MOST 1048576: true; the input reads as it did. -/
def codeGetsUptoRow : OpenClaim := { program := "ytcokhgomibimcaa", sum := "639983498dd2975186d2e62c6aa2e82f0cd1a01275095021321c33e87698471d", func := "trommel/trommellaw39.CodeGets", spec := "codeGets", apart := false, narrowed := true }
def CodeGetsUptoSaid : Prop := codeGetsUptoRow.holds Try.pinned (OpenSpec.upto codeGetsSpec)

/-- 'trommellaw08.TreeTells', WHERE WHAT IT READS IS OF BULK AT MOST 1048576: true; the input reads as it did. -/
def treeTellsUptoRow : OpenClaim := { program := "ytcokhgomibimcaa", sum := "639983498dd2975186d2e62c6aa2e82f0cd1a01275095021321c33e87698471d", func := "trommel/trommellaw08.TreeTells", spec := "treeTells", unfollowed := true, recurses := true, loops := true, apart := false, narrowed := true }
def TreeTellsUptoSaid : Prop := treeTellsUptoRow.holds Try.pinned (OpenSpec.upto treeTellsSpec)

/-- 'trommellaw08.TreeSames', WHERE WHAT IT READS IS OF BULK AT MOST 1048576: true; the input reads as it did. -/
def treeSamesUptoRow : OpenClaim := { program := "ytcokhgomibimcaa", sum := "639983498dd2975186d2e62c6aa2e82f0cd1a01275095021321c33e87698471d", func := "trommel/trommellaw08.TreeSames", spec := "treeSames", unfollowed := true, recurses := true, loops := true, apart := false, narrowed := true }
def TreeSamesUptoSaid : Prop := treeSamesUptoRow.holds Try.pinned (OpenSpec.upto treeSamesSpec)

/-- 'trommellaw08.TreeQueries', WHERE WHAT IT READS IS OF BULK AT MOST 1048576: true; the input reads as it did. -/
def treeQueriesUptoRow : OpenClaim := { program := "ytcokhgomibimcaa", sum := "639983498dd2975186d2e62c6aa2e82f0cd1a01275095021321c33e87698471d", func := "trommel/trommellaw08.TreeQueries", spec := "treeQueries", unfollowed := true, recurses := true, loops := true, apart := false, narrowed := true }
def TreeQueriesUptoSaid : Prop := treeQueriesUptoRow.holds Try.pinned (OpenSpec.upto treeQueriesSpec)

/-- 'trommellaw05.SchemaChecks', WHERE WHAT IT READS IS OF BULK AT MOST 1048576: true; the input reads as it did. -/
def schemaChecksUptoRow : OpenClaim := { program := "ytcokhgomibimcaa", sum := "639983498dd2975186d2e62c6aa2e82f0cd1a01275095021321c33e87698471d", func := "trommel/trommellaw05.SchemaChecks", spec := "schemaChecks", unfollowed := true, recurses := true, apart := false, narrowed := true }
def SchemaChecksUptoSaid : Prop := schemaChecksUptoRow.holds Try.pinned (OpenSpec.upto schemaChecksSpec)

/-- 'trommellaw05.SchemaFinds', WHERE WHAT IT READS IS OF BULK AT MOST 1048576: true; the input reads as it did. -/
def schemaFindsUptoRow : OpenClaim := { program := "ytcokhgomibimcaa", sum := "639983498dd2975186d2e62c6aa2e82f0cd1a01275095021321c33e87698471d", func := "trommel/trommellaw05.SchemaFinds", spec := "schemaFinds", unfollowed := true, recurses := true, apart := false, narrowed := true }
def SchemaFindsUptoSaid : Prop := schemaFindsUptoRow.holds Try.pinned (OpenSpec.upto schemaFindsSpec)

/-- 'trommellaw27.HistMarks', WHERE WHAT IT READS IS OF BULK AT MOST 1048576: true; the input reads as it did. -/
def histMarksUptoRow : OpenClaim := { program := "ytcokhgomibimcaa", sum := "639983498dd2975186d2e62c6aa2e82f0cd1a01275095021321c33e87698471d", func := "trommel/trommellaw27.HistMarks", spec := "histMarks", unfollowed := true, recurses := true, apart := false, narrowed := true }
def HistMarksUptoSaid : Prop := histMarksUptoRow.holds Try.pinned (OpenSpec.upto histMarksSpec)

/-- 'trommellaw27.HistHeld', WHERE WHAT IT READS IS OF BULK AT MOST 1048576: true; the input reads as it did. -/
def histHeldUptoRow : OpenClaim := { program := "ytcokhgomibimcaa", sum := "639983498dd2975186d2e62c6aa2e82f0cd1a01275095021321c33e87698471d", func := "trommel/trommellaw27.HistHeld", spec := "histHeld", unfollowed := true, recurses := true, apart := false, narrowed := true }
def HistHeldUptoSaid : Prop := histHeldUptoRow.holds Try.pinned (OpenSpec.upto histHeldSpec)

/-- 'trommellaw33.ReadyBounds', WHERE WHAT IT READS IS OF BULK AT MOST 1048576: true; the input reads as it did. -/
def readyBoundsUptoRow : OpenClaim := { program := "ytcokhgomibimcaa", sum := "639983498dd2975186d2e62c6aa2e82f0cd1a01275095021321c33e87698471d", func := "trommel/trommellaw33.ReadyBounds", spec := "readyBounds", unfollowed := true, recurses := true, loops := true, apart := false, narrowed := true }
def ReadyBoundsUptoSaid : Prop := readyBoundsUptoRow.holds Try.pinned (OpenSpec.upto readyBoundsSpec)

/-- 'trommellaw33.ReadyTells', WHERE WHAT IT READS IS OF BULK AT MOST 1048576: true; the input reads as it did. -/
def readyTellsUptoRow : OpenClaim := { program := "ytcokhgomibimcaa", sum := "639983498dd2975186d2e62c6aa2e82f0cd1a01275095021321c33e87698471d", func := "trommel/trommellaw33.ReadyTells", spec := "readyTells", loops := true, apart := false, narrowed := true }
def ReadyTellsUptoSaid : Prop := readyTellsUptoRow.holds Try.pinned (OpenSpec.upto readyTellsSpec)

end Rows
end Go.Proofs.Ytcokhgomibimcaa
