/-
  NARROWER THAN 'FOR EVERY INPUT', by the rows' own cells (each row's printed sentence says how): AggGroups: loops · NormOfs: loops · NormClasses: loops · ReadyTells: loops · ReadyBounds: loops.
  DERIVED. THE GIVEN ROWS OF THIS SEAT. 12 by the template 'for every input the law returns true; each argument reads behind the call as it read before'; 0 by the template 'total and deterministic' (their statements: YtfdjnhnchibejaaTotals.lean).
  GIVEN WITH THE SEED: the statements are not yours to turn. If you find one false, say at which input.
  Laid BY PROGRAM, IN A SANDBOX (cutbox-rows.mjs): the forced cells as the released guide's own fill.sh prints them over the translation 7ceaeb67b9a33d4d… (all of the seat's roots in one cut). By AI agents, Wed Nov 11 2026. No macro, syntax, notation, axiom, sorry.
-/
import Derived.Test.YtfdjnhnchibejaaChecked
import GoSem.Claim
import GoSem.ClaimJoined
import GoSem.ClaimMapViews
import Derived.JoinedTies
import Derived.KernelRfl
namespace Go.Proofs.Ytfdjnhnchibejaa
/- THE CELL 'sum', in the pinned program and in every row, IS THE sha256 OF THE DUMP (.gsa) THAT YtfdjnhnchibejaaProg.lean LOADS. Nothing in Lean hashes anything: it is a label: what it is worth is what the hold of that sum in a sandbox is worth. -/
noncomputable def Try.pinned : Pinned := { name := "ytfdjnhnchibejaa", sum := "7ceaeb67b9a33d4d6561cd5c9e3bf65d4c009e96c2f65d677f2d7ee49405e6a7", checked := Try.checked }
namespace Rows
def none {H : Type} : Left H := { results := [], args := [] }

/-- 'trommellaw14.AggGroups': WHATEVER THE INPUT: true; the input reads as it did. -/
def aggGroupsSpec : ChangeSpec := { name := "aggGroups", fn := fun _ => fun
  | [d1, d2, d3] => { results := [.lit (.bool true)], args := [d1, d2, d3] }
  | _ => none }
def aggGroupsRow : OpenClaim := { program := "ytfdjnhnchibejaa", sum := "7ceaeb67b9a33d4d6561cd5c9e3bf65d4c009e96c2f65d677f2d7ee49405e6a7", func := "trommel/trommellaw14.AggGroups", spec := "aggGroups", inPlace := ["math/bits.Add64", "internal/bytealg.abigen_runtime_cmpstring"], unfollowed := true, recurses := true, loops := true, plainKeys := false, apart := false }
def AggGroupsSaid : Prop := aggGroupsRow.holds Try.pinned (OpenSpec.ofChange aggGroupsSpec)

/-- ITS FALSE NEIGHBOUR: 'it returns false'. Refute it at one input. -/
def aggGroupsWrong : ChangeSpec := { name := "aggGroups", fn := fun _ => fun
  | [d1, d2, d3] => { results := [.lit (.bool false)], args := [d1, d2, d3] }
  | _ => none }
def AggGroupsWrongFalsely : Prop := aggGroupsRow.holds Try.pinned (OpenSpec.ofChange aggGroupsWrong)

/-- 'trommellaw16.NormOfs': WHATEVER THE INPUT: true; the input reads as it did. -/
def normOfsSpec : ChangeSpec := { name := "normOfs", fn := fun _ => fun
  | [d1, d2] => { results := [.lit (.bool true)], args := [d1, d2] }
  | _ => none }
def normOfsRow : OpenClaim := { program := "ytfdjnhnchibejaa", sum := "7ceaeb67b9a33d4d6561cd5c9e3bf65d4c009e96c2f65d677f2d7ee49405e6a7", func := "trommel/trommellaw16.NormOfs", spec := "normOfs", unfollowed := true, recurses := true, loops := true, plainKeys := false, apart := false }
def NormOfsSaid : Prop := normOfsRow.holds Try.pinned (OpenSpec.ofChange normOfsSpec)

/-- ITS FALSE NEIGHBOUR: 'it returns false'. Refute it at one input. -/
def normOfsWrong : ChangeSpec := { name := "normOfs", fn := fun _ => fun
  | [d1, d2] => { results := [.lit (.bool false)], args := [d1, d2] }
  | _ => none }
def NormOfsWrongFalsely : Prop := normOfsRow.holds Try.pinned (OpenSpec.ofChange normOfsWrong)

/-- 'trommellaw16.NormClasses': WHATEVER THE INPUT: true; the input reads as it did. -/
def normClassesSpec : ChangeSpec := { name := "normClasses", fn := fun _ => fun
  | [d1, d2, d3, d4, d5] => { results := [.lit (.bool true)], args := [d1, d2, d3, d4, d5] }
  | _ => none }
def normClassesRow : OpenClaim := { program := "ytfdjnhnchibejaa", sum := "7ceaeb67b9a33d4d6561cd5c9e3bf65d4c009e96c2f65d677f2d7ee49405e6a7", func := "trommel/trommellaw16.NormClasses", spec := "normClasses", unfollowed := true, recurses := true, loops := true, plainKeys := false, apart := false }
def NormClassesSaid : Prop := normClassesRow.holds Try.pinned (OpenSpec.ofChange normClassesSpec)

/-- ITS FALSE NEIGHBOUR: 'it returns false'. Refute it at one input. -/
def normClassesWrong : ChangeSpec := { name := "normClasses", fn := fun _ => fun
  | [d1, d2, d3, d4, d5] => { results := [.lit (.bool false)], args := [d1, d2, d3, d4, d5] }
  | _ => none }
def NormClassesWrongFalsely : Prop := normClassesRow.holds Try.pinned (OpenSpec.ofChange normClassesWrong)

/-- 'trommellaw27.HistHeld': WHATEVER THE INPUT: true; the input reads as it did. -/
def histHeldSpec : ChangeSpec := { name := "histHeld", fn := fun _ => fun
  | [d1, d2, d3] => { results := [.lit (.bool true)], args := [d1, d2, d3] }
  | _ => none }
def histHeldRow : OpenClaim := { program := "ytfdjnhnchibejaa", sum := "7ceaeb67b9a33d4d6561cd5c9e3bf65d4c009e96c2f65d677f2d7ee49405e6a7", func := "trommel/trommellaw27.HistHeld", spec := "histHeld", unfollowed := true, recurses := true, plainKeys := false, apart := false }
def HistHeldSaid : Prop := histHeldRow.holds Try.pinned (OpenSpec.ofChange histHeldSpec)

/-- ITS FALSE NEIGHBOUR: 'it returns false'. Refute it at one input. -/
def histHeldWrong : ChangeSpec := { name := "histHeld", fn := fun _ => fun
  | [d1, d2, d3] => { results := [.lit (.bool false)], args := [d1, d2, d3] }
  | _ => none }
def HistHeldWrongFalsely : Prop := histHeldRow.holds Try.pinned (OpenSpec.ofChange histHeldWrong)

/-- 'trommellaw27.HistOfs': WHATEVER THE INPUT: true; the input reads as it did. -/
def histOfsSpec : ChangeSpec := { name := "histOfs", fn := fun _ => fun
  | [d] => { results := [.lit (.bool true)], args := [d] }
  | _ => none }
def histOfsRow : OpenClaim := { program := "ytfdjnhnchibejaa", sum := "7ceaeb67b9a33d4d6561cd5c9e3bf65d4c009e96c2f65d677f2d7ee49405e6a7", func := "trommel/trommellaw27.HistOfs", spec := "histOfs", unfollowed := true, recurses := true, plainKeys := false, apart := false }
def HistOfsSaid : Prop := histOfsRow.holds Try.pinned (OpenSpec.ofChange histOfsSpec)

/-- ITS FALSE NEIGHBOUR: 'it returns false'. Refute it at one input. -/
def histOfsWrong : ChangeSpec := { name := "histOfs", fn := fun _ => fun
  | [d] => { results := [.lit (.bool false)], args := [d] }
  | _ => none }
def HistOfsWrongFalsely : Prop := histOfsRow.holds Try.pinned (OpenSpec.ofChange histOfsWrong)

/-- 'trommellaw21.GraphTwo': WHATEVER THE INPUT: true; the input reads as it did. -/
def graphTwoSpec : ChangeSpec := { name := "graphTwo", fn := fun _ => fun
  | [d1, d2] => { results := [.lit (.bool true)], args := [d1, d2] }
  | _ => none }
def graphTwoRow : OpenClaim := { program := "ytfdjnhnchibejaa", sum := "7ceaeb67b9a33d4d6561cd5c9e3bf65d4c009e96c2f65d677f2d7ee49405e6a7", func := "trommel/trommellaw21.GraphTwo", spec := "graphTwo", unfollowed := true, recurses := true, plainKeys := false, apart := false }
def GraphTwoSaid : Prop := graphTwoRow.holds Try.pinned (OpenSpec.ofChange graphTwoSpec)

/-- ITS FALSE NEIGHBOUR: 'it returns false'. Refute it at one input. -/
def graphTwoWrong : ChangeSpec := { name := "graphTwo", fn := fun _ => fun
  | [d1, d2] => { results := [.lit (.bool false)], args := [d1, d2] }
  | _ => none }
def GraphTwoWrongFalsely : Prop := graphTwoRow.holds Try.pinned (OpenSpec.ofChange graphTwoWrong)

/-- 'trommellaw21.GraphTells': WHATEVER THE INPUT: true; the input reads as it did. -/
def graphTellsSpec : ChangeSpec := { name := "graphTells", fn := fun _ => fun
  | [d1, d2] => { results := [.lit (.bool true)], args := [d1, d2] }
  | _ => none }
def graphTellsRow : OpenClaim := { program := "ytfdjnhnchibejaa", sum := "7ceaeb67b9a33d4d6561cd5c9e3bf65d4c009e96c2f65d677f2d7ee49405e6a7", func := "trommel/trommellaw21.GraphTells", spec := "graphTells", recurses := true, plainKeys := false, apart := false }
def GraphTellsSaid : Prop := graphTellsRow.holds Try.pinned (OpenSpec.ofChange graphTellsSpec)

/-- ITS FALSE NEIGHBOUR: 'it returns false'. Refute it at one input. -/
def graphTellsWrong : ChangeSpec := { name := "graphTells", fn := fun _ => fun
  | [d1, d2] => { results := [.lit (.bool false)], args := [d1, d2] }
  | _ => none }
def GraphTellsWrongFalsely : Prop := graphTellsRow.holds Try.pinned (OpenSpec.ofChange graphTellsWrong)

/-- 'trommellaw22.GyoEars': WHATEVER THE INPUT: true; the input reads as it did. -/
def gyoEarsSpec : ChangeSpec := { name := "gyoEars", fn := fun _ => fun
  | [d1, d2, d3] => { results := [.lit (.bool true)], args := [d1, d2, d3] }
  | _ => none }
def gyoEarsRow : OpenClaim := { program := "ytfdjnhnchibejaa", sum := "7ceaeb67b9a33d4d6561cd5c9e3bf65d4c009e96c2f65d677f2d7ee49405e6a7", func := "trommel/trommellaw22.GyoEars", spec := "gyoEars", unfollowed := true, recurses := true, plainKeys := false, apart := false }
def GyoEarsSaid : Prop := gyoEarsRow.holds Try.pinned (OpenSpec.ofChange gyoEarsSpec)

/-- ITS FALSE NEIGHBOUR: 'it returns false'. Refute it at one input. -/
def gyoEarsWrong : ChangeSpec := { name := "gyoEars", fn := fun _ => fun
  | [d1, d2, d3] => { results := [.lit (.bool false)], args := [d1, d2, d3] }
  | _ => none }
def GyoEarsWrongFalsely : Prop := gyoEarsRow.holds Try.pinned (OpenSpec.ofChange gyoEarsWrong)

/-- 'trommellaw22.GyoParents': WHATEVER THE INPUT: true; the input reads as it did. -/
def gyoParentsSpec : ChangeSpec := { name := "gyoParents", fn := fun _ => fun
  | [d] => { results := [.lit (.bool true)], args := [d] }
  | _ => none }
def gyoParentsRow : OpenClaim := { program := "ytfdjnhnchibejaa", sum := "7ceaeb67b9a33d4d6561cd5c9e3bf65d4c009e96c2f65d677f2d7ee49405e6a7", func := "trommel/trommellaw22.GyoParents", spec := "gyoParents", unfollowed := true, recurses := true, plainKeys := false, apart := false }
def GyoParentsSaid : Prop := gyoParentsRow.holds Try.pinned (OpenSpec.ofChange gyoParentsSpec)

/-- ITS FALSE NEIGHBOUR: 'it returns false'. Refute it at one input. -/
def gyoParentsWrong : ChangeSpec := { name := "gyoParents", fn := fun _ => fun
  | [d] => { results := [.lit (.bool false)], args := [d] }
  | _ => none }
def GyoParentsWrongFalsely : Prop := gyoParentsRow.holds Try.pinned (OpenSpec.ofChange gyoParentsWrong)

/-- 'trommellaw23.JtreeTells': WHATEVER THE INPUT: true; the input reads as it did. -/
def jtreeTellsSpec : ChangeSpec := { name := "jtreeTells", fn := fun _ => fun
  | [d1, d2, d3] => { results := [.lit (.bool true)], args := [d1, d2, d3] }
  | _ => none }
def jtreeTellsRow : OpenClaim := { program := "ytfdjnhnchibejaa", sum := "7ceaeb67b9a33d4d6561cd5c9e3bf65d4c009e96c2f65d677f2d7ee49405e6a7", func := "trommel/trommellaw23.JtreeTells", spec := "jtreeTells", unfollowed := true, recurses := true, plainKeys := false, apart := false }
def JtreeTellsSaid : Prop := jtreeTellsRow.holds Try.pinned (OpenSpec.ofChange jtreeTellsSpec)

/-- ITS FALSE NEIGHBOUR: 'it returns false'. Refute it at one input. -/
def jtreeTellsWrong : ChangeSpec := { name := "jtreeTells", fn := fun _ => fun
  | [d1, d2, d3] => { results := [.lit (.bool false)], args := [d1, d2, d3] }
  | _ => none }
def JtreeTellsWrongFalsely : Prop := jtreeTellsRow.holds Try.pinned (OpenSpec.ofChange jtreeTellsWrong)

/-- 'trommellaw33.ReadyTells': WHATEVER THE INPUT: true; the input reads as it did. -/
def readyTellsSpec : ChangeSpec := { name := "readyTells", fn := fun _ => fun
  | [d1, d2, d3] => { results := [.lit (.bool true)], args := [d1, d2, d3] }
  | _ => none }
def readyTellsRow : OpenClaim := { program := "ytfdjnhnchibejaa", sum := "7ceaeb67b9a33d4d6561cd5c9e3bf65d4c009e96c2f65d677f2d7ee49405e6a7", func := "trommel/trommellaw33.ReadyTells", spec := "readyTells", loops := true, plainKeys := false, apart := false }
def ReadyTellsSaid : Prop := readyTellsRow.holds Try.pinned (OpenSpec.ofChange readyTellsSpec)

/-- ITS FALSE NEIGHBOUR: 'it returns false'. Refute it at one input. -/
def readyTellsWrong : ChangeSpec := { name := "readyTells", fn := fun _ => fun
  | [d1, d2, d3] => { results := [.lit (.bool false)], args := [d1, d2, d3] }
  | _ => none }
def ReadyTellsWrongFalsely : Prop := readyTellsRow.holds Try.pinned (OpenSpec.ofChange readyTellsWrong)

/-- 'trommellaw33.ReadyBounds': WHATEVER THE INPUT: true; the input reads as it did. -/
def readyBoundsSpec : ChangeSpec := { name := "readyBounds", fn := fun _ => fun
  | [d1, d2, d3, d4] => { results := [.lit (.bool true)], args := [d1, d2, d3, d4] }
  | _ => none }
def readyBoundsRow : OpenClaim := { program := "ytfdjnhnchibejaa", sum := "7ceaeb67b9a33d4d6561cd5c9e3bf65d4c009e96c2f65d677f2d7ee49405e6a7", func := "trommel/trommellaw33.ReadyBounds", spec := "readyBounds", unfollowed := true, recurses := true, loops := true, plainKeys := false, apart := false }
def ReadyBoundsSaid : Prop := readyBoundsRow.holds Try.pinned (OpenSpec.ofChange readyBoundsSpec)

/-- ITS FALSE NEIGHBOUR: 'it returns false'. Refute it at one input. -/
def readyBoundsWrong : ChangeSpec := { name := "readyBounds", fn := fun _ => fun
  | [d1, d2, d3, d4] => { results := [.lit (.bool false)], args := [d1, d2, d3, d4] }
  | _ => none }
def ReadyBoundsWrongFalsely : Prop := readyBoundsRow.holds Try.pinned (OpenSpec.ofChange readyBoundsWrong)

/- THE SECOND FORM. 'bulk': how many values and letters a reading holds, each counted each time it is reached (what is shared counts as often as it is met; a slice's spare places count too). A statement '..UptoSaid' is the law's where the arguments, and the package variables that the reading takes, are together of bulk at most 1048576: NARROWER than '..Said'. Prove '..Said' where nothing that the law and all that it calls make is longer than what came in: it says more and counts as full. Else prove '..UptoSaid'. A law counts once. -/
mutual
def uptoBulk {H : Type} : DataW H → Nat
  | .lit (.string bytes) => bytes.length + 1
  | .lit _ => 1
  | .nil => 1
  | .ptr d => uptoBulk d + 1
  | .slice elems spare => uptoBulkAll elems + uptoBulkAll spare + 1
  | .agg parts => uptoBulkAll parts + 1
  | .iface _ d => uptoBulk d + 1
  | .map entries => uptoBulkEntries entries + 1
  | .held _ => 1
def uptoBulkAll {H : Type} : List (DataW H) → Nat
  | [] => 0
  | d :: r => uptoBulk d + uptoBulkAll r
def uptoBulkEntries {H : Type} : List (Lit × DataW H) → Nat
  | [] => 0
  | x :: r => uptoBulkEntry x + uptoBulkEntries r
def uptoBulkEntry {H : Type} : Lit × DataW H → Nat
  | (.string bytes, d) => bytes.length + uptoBulk d + 1
  | (_, d) => uptoBulk d + 1
 end
def uptoSmall : (H : Type) → List (DataW H) → Bool := fun _ ds => decide (uptoBulkAll ds ≤ 1048576)
def OpenSpec.upto (s : _root_.Go.ChangeSpec) : _root_.Go.OpenSpec := { _root_.Go.OpenSpec.ofChange s with cond := some uptoSmall }

/-- 'trommellaw14.AggGroups', WHERE WHAT IT READS IS OF BULK AT MOST 1048576: true; the input reads as it did. -/
def aggGroupsUptoRow : OpenClaim := { program := "ytfdjnhnchibejaa", sum := "7ceaeb67b9a33d4d6561cd5c9e3bf65d4c009e96c2f65d677f2d7ee49405e6a7", func := "trommel/trommellaw14.AggGroups", spec := "aggGroups", inPlace := ["math/bits.Add64", "internal/bytealg.abigen_runtime_cmpstring"], unfollowed := true, recurses := true, loops := true, plainKeys := false, apart := false, narrowed := true }
def AggGroupsUptoSaid : Prop := aggGroupsUptoRow.holds Try.pinned (OpenSpec.upto aggGroupsSpec)

/-- 'trommellaw16.NormOfs', WHERE WHAT IT READS IS OF BULK AT MOST 1048576: true; the input reads as it did. -/
def normOfsUptoRow : OpenClaim := { program := "ytfdjnhnchibejaa", sum := "7ceaeb67b9a33d4d6561cd5c9e3bf65d4c009e96c2f65d677f2d7ee49405e6a7", func := "trommel/trommellaw16.NormOfs", spec := "normOfs", unfollowed := true, recurses := true, loops := true, plainKeys := false, apart := false, narrowed := true }
def NormOfsUptoSaid : Prop := normOfsUptoRow.holds Try.pinned (OpenSpec.upto normOfsSpec)

/-- 'trommellaw16.NormClasses', WHERE WHAT IT READS IS OF BULK AT MOST 1048576: true; the input reads as it did. -/
def normClassesUptoRow : OpenClaim := { program := "ytfdjnhnchibejaa", sum := "7ceaeb67b9a33d4d6561cd5c9e3bf65d4c009e96c2f65d677f2d7ee49405e6a7", func := "trommel/trommellaw16.NormClasses", spec := "normClasses", unfollowed := true, recurses := true, loops := true, plainKeys := false, apart := false, narrowed := true }
def NormClassesUptoSaid : Prop := normClassesUptoRow.holds Try.pinned (OpenSpec.upto normClassesSpec)

/-- 'trommellaw27.HistHeld', WHERE WHAT IT READS IS OF BULK AT MOST 1048576: true; the input reads as it did. -/
def histHeldUptoRow : OpenClaim := { program := "ytfdjnhnchibejaa", sum := "7ceaeb67b9a33d4d6561cd5c9e3bf65d4c009e96c2f65d677f2d7ee49405e6a7", func := "trommel/trommellaw27.HistHeld", spec := "histHeld", unfollowed := true, recurses := true, plainKeys := false, apart := false, narrowed := true }
def HistHeldUptoSaid : Prop := histHeldUptoRow.holds Try.pinned (OpenSpec.upto histHeldSpec)

/-- 'trommellaw27.HistOfs', WHERE WHAT IT READS IS OF BULK AT MOST 1048576: true; the input reads as it did. -/
def histOfsUptoRow : OpenClaim := { program := "ytfdjnhnchibejaa", sum := "7ceaeb67b9a33d4d6561cd5c9e3bf65d4c009e96c2f65d677f2d7ee49405e6a7", func := "trommel/trommellaw27.HistOfs", spec := "histOfs", unfollowed := true, recurses := true, plainKeys := false, apart := false, narrowed := true }
def HistOfsUptoSaid : Prop := histOfsUptoRow.holds Try.pinned (OpenSpec.upto histOfsSpec)

/-- 'trommellaw21.GraphTwo', WHERE WHAT IT READS IS OF BULK AT MOST 1048576: true; the input reads as it did. -/
def graphTwoUptoRow : OpenClaim := { program := "ytfdjnhnchibejaa", sum := "7ceaeb67b9a33d4d6561cd5c9e3bf65d4c009e96c2f65d677f2d7ee49405e6a7", func := "trommel/trommellaw21.GraphTwo", spec := "graphTwo", unfollowed := true, recurses := true, plainKeys := false, apart := false, narrowed := true }
def GraphTwoUptoSaid : Prop := graphTwoUptoRow.holds Try.pinned (OpenSpec.upto graphTwoSpec)

/-- 'trommellaw21.GraphTells', WHERE WHAT IT READS IS OF BULK AT MOST 1048576: true; the input reads as it did. -/
def graphTellsUptoRow : OpenClaim := { program := "ytfdjnhnchibejaa", sum := "7ceaeb67b9a33d4d6561cd5c9e3bf65d4c009e96c2f65d677f2d7ee49405e6a7", func := "trommel/trommellaw21.GraphTells", spec := "graphTells", recurses := true, plainKeys := false, apart := false, narrowed := true }
def GraphTellsUptoSaid : Prop := graphTellsUptoRow.holds Try.pinned (OpenSpec.upto graphTellsSpec)

/-- 'trommellaw22.GyoEars', WHERE WHAT IT READS IS OF BULK AT MOST 1048576: true; the input reads as it did. -/
def gyoEarsUptoRow : OpenClaim := { program := "ytfdjnhnchibejaa", sum := "7ceaeb67b9a33d4d6561cd5c9e3bf65d4c009e96c2f65d677f2d7ee49405e6a7", func := "trommel/trommellaw22.GyoEars", spec := "gyoEars", unfollowed := true, recurses := true, plainKeys := false, apart := false, narrowed := true }
def GyoEarsUptoSaid : Prop := gyoEarsUptoRow.holds Try.pinned (OpenSpec.upto gyoEarsSpec)

/-- 'trommellaw22.GyoParents', WHERE WHAT IT READS IS OF BULK AT MOST 1048576: true; the input reads as it did. -/
def gyoParentsUptoRow : OpenClaim := { program := "ytfdjnhnchibejaa", sum := "7ceaeb67b9a33d4d6561cd5c9e3bf65d4c009e96c2f65d677f2d7ee49405e6a7", func := "trommel/trommellaw22.GyoParents", spec := "gyoParents", unfollowed := true, recurses := true, plainKeys := false, apart := false, narrowed := true }
def GyoParentsUptoSaid : Prop := gyoParentsUptoRow.holds Try.pinned (OpenSpec.upto gyoParentsSpec)

/-- 'trommellaw23.JtreeTells', WHERE WHAT IT READS IS OF BULK AT MOST 1048576: true; the input reads as it did. -/
def jtreeTellsUptoRow : OpenClaim := { program := "ytfdjnhnchibejaa", sum := "7ceaeb67b9a33d4d6561cd5c9e3bf65d4c009e96c2f65d677f2d7ee49405e6a7", func := "trommel/trommellaw23.JtreeTells", spec := "jtreeTells", unfollowed := true, recurses := true, plainKeys := false, apart := false, narrowed := true }
def JtreeTellsUptoSaid : Prop := jtreeTellsUptoRow.holds Try.pinned (OpenSpec.upto jtreeTellsSpec)

/-- 'trommellaw33.ReadyTells', WHERE WHAT IT READS IS OF BULK AT MOST 1048576: true; the input reads as it did. -/
def readyTellsUptoRow : OpenClaim := { program := "ytfdjnhnchibejaa", sum := "7ceaeb67b9a33d4d6561cd5c9e3bf65d4c009e96c2f65d677f2d7ee49405e6a7", func := "trommel/trommellaw33.ReadyTells", spec := "readyTells", loops := true, plainKeys := false, apart := false, narrowed := true }
def ReadyTellsUptoSaid : Prop := readyTellsUptoRow.holds Try.pinned (OpenSpec.upto readyTellsSpec)

/-- 'trommellaw33.ReadyBounds', WHERE WHAT IT READS IS OF BULK AT MOST 1048576: true; the input reads as it did. -/
def readyBoundsUptoRow : OpenClaim := { program := "ytfdjnhnchibejaa", sum := "7ceaeb67b9a33d4d6561cd5c9e3bf65d4c009e96c2f65d677f2d7ee49405e6a7", func := "trommel/trommellaw33.ReadyBounds", spec := "readyBounds", unfollowed := true, recurses := true, loops := true, plainKeys := false, apart := false, narrowed := true }
def ReadyBoundsUptoSaid : Prop := readyBoundsUptoRow.holds Try.pinned (OpenSpec.upto readyBoundsSpec)

end Rows
end Go.Proofs.Ytfdjnhnchibejaa
