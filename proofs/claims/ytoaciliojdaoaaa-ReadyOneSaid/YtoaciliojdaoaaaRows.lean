/-
  NARROWER THAN 'FOR EVERY INPUT', by the rows' own cells (each row's printed sentence says how): PlaceAlls: loops · ReadyPlans: loops · ReadyOne: loops.
  DERIVED. THE GIVEN ROWS OF THIS SEAT. 3 by the template 'for every input the law returns true; each argument reads behind the call as it read before'; 0 by the template 'total and deterministic' (their statements: YtoaciliojdaoaaaTotals.lean).
  GIVEN WITH THE SEED: the statements are not yours to turn. If you find one false, say at which input.
  Laid BY PROGRAM, IN A SANDBOX (cutbox-rows.mjs): the forced cells as the released guide's own fill.sh prints them over the translation 9513291485e5f3fc… (all of the seat's roots in one cut). By AI agents, Wed Nov 11 2026. No macro, syntax, notation, axiom, sorry.
-/
import Derived.Test.YtoaciliojdaoaaaChecked
import GoSem.Claim
import GoSem.ClaimJoined
import GoSem.ClaimMapViews
import Derived.JoinedTies
import Derived.KernelRfl
namespace Go.Proofs.Ytoaciliojdaoaaa
/- THE CELL 'sum', in the pinned program and in every row, IS THE sha256 OF THE DUMP (.gsa) THAT YtoaciliojdaoaaaProg.lean LOADS. Nothing in Lean hashes anything: it is a label: what it is worth is what the hold of that sum in a sandbox is worth. -/
noncomputable def Try.pinned : Pinned := { name := "ytoaciliojdaoaaa", sum := "9513291485e5f3fc0ed4e9de26dcb9073d777c91ca9e61af3ac30f86a9cc7d6e", checked := Try.checked }
namespace Rows
def none {H : Type} : Left H := { results := [], args := [] }

/-- 'trommellaw31.PlaceAlls': WHATEVER THE INPUT: true; the input reads as it did. -/
def placeAllsSpec : ChangeSpec := { name := "placeAlls", fn := fun _ => fun
  | [d1, d2] => { results := [.lit (.bool true)], args := [d1, d2] }
  | _ => none }
def placeAllsRow : OpenClaim := { program := "ytoaciliojdaoaaa", sum := "9513291485e5f3fc0ed4e9de26dcb9073d777c91ca9e61af3ac30f86a9cc7d6e", func := "trommel/trommellaw31.PlaceAlls", spec := "placeAlls", unfollowed := true, recurses := true, loops := true, apart := false }
def PlaceAllsSaid : Prop := placeAllsRow.holds Try.pinned (OpenSpec.ofChange placeAllsSpec)

/-- ITS FALSE NEIGHBOUR: 'it returns false'. Refute it at one input. -/
def placeAllsWrong : ChangeSpec := { name := "placeAlls", fn := fun _ => fun
  | [d1, d2] => { results := [.lit (.bool false)], args := [d1, d2] }
  | _ => none }
def PlaceAllsWrongFalsely : Prop := placeAllsRow.holds Try.pinned (OpenSpec.ofChange placeAllsWrong)

/-- 'trommellaw33.ReadyPlans': WHATEVER THE INPUT: true; the input reads as it did. -/
def readyPlansSpec : ChangeSpec := { name := "readyPlans", fn := fun _ => fun
  | [d1, d2, d3] => { results := [.lit (.bool true)], args := [d1, d2, d3] }
  | _ => none }
def readyPlansRow : OpenClaim := { program := "ytoaciliojdaoaaa", sum := "9513291485e5f3fc0ed4e9de26dcb9073d777c91ca9e61af3ac30f86a9cc7d6e", func := "trommel/trommellaw33.ReadyPlans", spec := "readyPlans", unfollowed := true, recurses := true, loops := true, apart := false }
def ReadyPlansSaid : Prop := readyPlansRow.holds Try.pinned (OpenSpec.ofChange readyPlansSpec)

/-- ITS FALSE NEIGHBOUR: 'it returns false'. Refute it at one input. -/
def readyPlansWrong : ChangeSpec := { name := "readyPlans", fn := fun _ => fun
  | [d1, d2, d3] => { results := [.lit (.bool false)], args := [d1, d2, d3] }
  | _ => none }
def ReadyPlansWrongFalsely : Prop := readyPlansRow.holds Try.pinned (OpenSpec.ofChange readyPlansWrong)

/-- 'trommellaw33.ReadyOne': WHATEVER THE INPUT: true; the input reads as it did. -/
def readyOneSpec : ChangeSpec := { name := "readyOne", fn := fun _ => fun
  | [d1, d2, d3, d4] => { results := [.lit (.bool true)], args := [d1, d2, d3, d4] }
  | _ => none }
def readyOneRow : OpenClaim := { program := "ytoaciliojdaoaaa", sum := "9513291485e5f3fc0ed4e9de26dcb9073d777c91ca9e61af3ac30f86a9cc7d6e", func := "trommel/trommellaw33.ReadyOne", spec := "readyOne", unfollowed := true, recurses := true, loops := true, apart := false }
def ReadyOneSaid : Prop := readyOneRow.holds Try.pinned (OpenSpec.ofChange readyOneSpec)

/-- ITS FALSE NEIGHBOUR: 'it returns false'. Refute it at one input. -/
def readyOneWrong : ChangeSpec := { name := "readyOne", fn := fun _ => fun
  | [d1, d2, d3, d4] => { results := [.lit (.bool false)], args := [d1, d2, d3, d4] }
  | _ => none }
def ReadyOneWrongFalsely : Prop := readyOneRow.holds Try.pinned (OpenSpec.ofChange readyOneWrong)

/- THE SECOND FORM. 'bulk': how many values and letters a reading holds, each counted each time it is reached (what is shared counts as often as it is met; a slice's spare places count too). A statement '..UptoSaid' is the law's where the arguments, and the package variables that the reading takes, are together of bulk at most 1048576: NARROWER than '..Said'. Prove '..Said' where nothing that the law and all that it calls make is longer than what came in: it says more and counts as full. Else prove '..UptoSaid'. A law counts once. -/
mutual
def uptoBulk {H : Type} : DataW H → Nat
  | .lit (.string bytes) => bytes.length + 1
  | .lit _ => 1
  | .nil => 1
  | .ptr d => uptoBulk d + 1
  | .slice elems spare => uptoBulkAll elems + uptoBulkAll spare + 1
  | .agg parts => uptoBulkAll parts + 1
  | .iface _ d => uptoBulk d + 1
  | .map entries => uptoBulkEntries entries + 1
  | .held _ => 1
def uptoBulkAll {H : Type} : List (DataW H) → Nat
  | [] => 0
  | d :: r => uptoBulk d + uptoBulkAll r
def uptoBulkEntries {H : Type} : List (Lit × DataW H) → Nat
  | [] => 0
  | x :: r => uptoBulkEntry x + uptoBulkEntries r
def uptoBulkEntry {H : Type} : Lit × DataW H → Nat
  | (.string bytes, d) => bytes.length + uptoBulk d + 1
  | (_, d) => uptoBulk d + 1
 end
def uptoSmall : (H : Type) → List (DataW H) → Bool := fun _ ds => decide (uptoBulkAll ds ≤ 1048576)
def OpenSpec.upto (s : _root_.Go.ChangeSpec) : _root_.Go.OpenSpec := { _root_.Go.OpenSpec.ofChange s with cond := some uptoSmall }

/-- 'trommellaw31.PlaceAlls', WHERE WHAT IT READS IS OF BULK AT MOST 1048576: true; the input reads as it did. -/
def placeAllsUptoRow : OpenClaim := { program := "ytoaciliojdaoaaa", sum := "9513291485e5f3fc0ed4e9de26dcb9073d777c91ca9e61af3ac30f86a9cc7d6e", func := "trommel/trommellaw31.PlaceAlls", spec := "placeAlls", unfollowed := true, recurses := true, loops := true, apart := false, narrowed := true }
def PlaceAllsUptoSaid : Prop := placeAllsUptoRow.holds Try.pinned (OpenSpec.upto placeAllsSpec)

/-- 'trommellaw33.ReadyPlans', WHERE WHAT IT READS IS OF BULK AT MOST 1048576: true; the input reads as it did. -/
def readyPlansUptoRow : OpenClaim := { program := "ytoaciliojdaoaaa", sum := "9513291485e5f3fc0ed4e9de26dcb9073d777c91ca9e61af3ac30f86a9cc7d6e", func := "trommel/trommellaw33.ReadyPlans", spec := "readyPlans", unfollowed := true, recurses := true, loops := true, apart := false, narrowed := true }
def ReadyPlansUptoSaid : Prop := readyPlansUptoRow.holds Try.pinned (OpenSpec.upto readyPlansSpec)

/-- 'trommellaw33.ReadyOne', WHERE WHAT IT READS IS OF BULK AT MOST 1048576: true; the input reads as it did. -/
def readyOneUptoRow : OpenClaim := { program := "ytoaciliojdaoaaa", sum := "9513291485e5f3fc0ed4e9de26dcb9073d777c91ca9e61af3ac30f86a9cc7d6e", func := "trommel/trommellaw33.ReadyOne", spec := "readyOne", unfollowed := true, recurses := true, loops := true, apart := false, narrowed := true }
def ReadyOneUptoSaid : Prop := readyOneUptoRow.holds Try.pinned (OpenSpec.upto readyOneSpec)

end Rows
end Go.Proofs.Ytoaciliojdaoaaa
