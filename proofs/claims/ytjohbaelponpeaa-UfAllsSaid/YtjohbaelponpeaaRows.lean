/-
  NARROWER THAN 'FOR EVERY INPUT', by the rows' own cells (each row's printed sentence says how): GraphOfs: loops · NormClasses: loops.
  DERIVED. THE GIVEN ROWS OF THIS SEAT. 12 by the template 'for every input the law returns true; each argument reads behind the call as it read before'; 0 by the template 'total and deterministic' (their statements: YtjohbaelponpeaaTotals.lean).
  GIVEN WITH THE SEED: the statements are not yours to turn. If you find one false, say at which input.
  Laid BY PROGRAM, IN A SANDBOX (cutbox-rows.mjs): the forced cells as the released guide's own fill.sh prints them over the translation cf2c65531666c5b4… (all of the seat's roots in one cut). By AI agents, Wed Nov 11 2026. No macro, syntax, notation, axiom, sorry.
-/
import Derived.Test.YtjohbaelponpeaaChecked
import GoSem.Claim
import GoSem.ClaimJoined
import GoSem.ClaimMapViews
import Derived.JoinedTies
import Derived.KernelRfl
namespace Go.Proofs.Ytjohbaelponpeaa
/- THE CELL 'sum', in the pinned program and in every row, IS THE sha256 OF THE DUMP (.gsa) THAT YtjohbaelponpeaaProg.lean LOADS. Nothing in Lean hashes anything: it is a label: what it is worth is what the hold of that sum in a sandbox is worth. -/
noncomputable def Try.pinned : Pinned := { name := "ytjohbaelponpeaa", sum := "cf2c65531666c5b476db15d2436e986f5fd11aae219e2d58dc87de499172ad17", checked := Try.checked }
namespace Rows
def none {H : Type} : Left H := { results := [], args := [] }

/-- 'trommellaw21.GraphTwo': WHATEVER THE INPUT: true; the input reads as it did. -/
def graphTwoSpec : ChangeSpec := { name := "graphTwo", fn := fun _ => fun
  | [d1, d2] => { results := [.lit (.bool true)], args := [d1, d2] }
  | _ => none }
def graphTwoRow : OpenClaim := { program := "ytjohbaelponpeaa", sum := "cf2c65531666c5b476db15d2436e986f5fd11aae219e2d58dc87de499172ad17", func := "trommel/trommellaw21.GraphTwo", spec := "graphTwo", unfollowed := true, recurses := true, plainKeys := false, apart := false }
def GraphTwoSaid : Prop := graphTwoRow.holds Try.pinned (OpenSpec.ofChange graphTwoSpec)

/-- ITS FALSE NEIGHBOUR: 'it returns false'. Refute it at one input. -/
def graphTwoWrong : ChangeSpec := { name := "graphTwo", fn := fun _ => fun
  | [d1, d2] => { results := [.lit (.bool false)], args := [d1, d2] }
  | _ => none }
def GraphTwoWrongFalsely : Prop := graphTwoRow.holds Try.pinned (OpenSpec.ofChange graphTwoWrong)

/-- 'trommellaw21.GraphTells': WHATEVER THE INPUT: true; the input reads as it did. -/
def graphTellsSpec : ChangeSpec := { name := "graphTells", fn := fun _ => fun
  | [d1, d2] => { results := [.lit (.bool true)], args := [d1, d2] }
  | _ => none }
def graphTellsRow : OpenClaim := { program := "ytjohbaelponpeaa", sum := "cf2c65531666c5b476db15d2436e986f5fd11aae219e2d58dc87de499172ad17", func := "trommel/trommellaw21.GraphTells", spec := "graphTells", recurses := true, plainKeys := false, apart := false }
def GraphTellsSaid : Prop := graphTellsRow.holds Try.pinned (OpenSpec.ofChange graphTellsSpec)

/-- ITS FALSE NEIGHBOUR: 'it returns false'. Refute it at one input. -/
def graphTellsWrong : ChangeSpec := { name := "graphTells", fn := fun _ => fun
  | [d1, d2] => { results := [.lit (.bool false)], args := [d1, d2] }
  | _ => none }
def GraphTellsWrongFalsely : Prop := graphTellsRow.holds Try.pinned (OpenSpec.ofChange graphTellsWrong)

/-- 'trommellaw22.GyoEars': WHATEVER THE INPUT: true; the input reads as it did. -/
def gyoEarsSpec : ChangeSpec := { name := "gyoEars", fn := fun _ => fun
  | [d1, d2, d3] => { results := [.lit (.bool true)], args := [d1, d2, d3] }
  | _ => none }
def gyoEarsRow : OpenClaim := { program := "ytjohbaelponpeaa", sum := "cf2c65531666c5b476db15d2436e986f5fd11aae219e2d58dc87de499172ad17", func := "trommel/trommellaw22.GyoEars", spec := "gyoEars", unfollowed := true, recurses := true, plainKeys := false, apart := false }
def GyoEarsSaid : Prop := gyoEarsRow.holds Try.pinned (OpenSpec.ofChange gyoEarsSpec)

/-- ITS FALSE NEIGHBOUR: 'it returns false'. Refute it at one input. -/
def gyoEarsWrong : ChangeSpec := { name := "gyoEars", fn := fun _ => fun
  | [d1, d2, d3] => { results := [.lit (.bool false)], args := [d1, d2, d3] }
  | _ => none }
def GyoEarsWrongFalsely : Prop := gyoEarsRow.holds Try.pinned (OpenSpec.ofChange gyoEarsWrong)

/-- 'trommellaw22.GyoParents': WHATEVER THE INPUT: true; the input reads as it did. -/
def gyoParentsSpec : ChangeSpec := { name := "gyoParents", fn := fun _ => fun
  | [d] => { results := [.lit (.bool true)], args := [d] }
  | _ => none }
def gyoParentsRow : OpenClaim := { program := "ytjohbaelponpeaa", sum := "cf2c65531666c5b476db15d2436e986f5fd11aae219e2d58dc87de499172ad17", func := "trommel/trommellaw22.GyoParents", spec := "gyoParents", unfollowed := true, recurses := true, plainKeys := false, apart := false }
def GyoParentsSaid : Prop := gyoParentsRow.holds Try.pinned (OpenSpec.ofChange gyoParentsSpec)

/-- ITS FALSE NEIGHBOUR: 'it returns false'. Refute it at one input. -/
def gyoParentsWrong : ChangeSpec := { name := "gyoParents", fn := fun _ => fun
  | [d] => { results := [.lit (.bool false)], args := [d] }
  | _ => none }
def GyoParentsWrongFalsely : Prop := gyoParentsRow.holds Try.pinned (OpenSpec.ofChange gyoParentsWrong)

/-- 'trommellaw22.GyoTrees': WHATEVER THE INPUT: true; the input reads as it did. -/
def gyoTreesSpec : ChangeSpec := { name := "gyoTrees", fn := fun _ => fun
  | [d] => { results := [.lit (.bool true)], args := [d] }
  | _ => none }
def gyoTreesRow : OpenClaim := { program := "ytjohbaelponpeaa", sum := "cf2c65531666c5b476db15d2436e986f5fd11aae219e2d58dc87de499172ad17", func := "trommel/trommellaw22.GyoTrees", spec := "gyoTrees", unfollowed := true, recurses := true, plainKeys := false, apart := false }
def GyoTreesSaid : Prop := gyoTreesRow.holds Try.pinned (OpenSpec.ofChange gyoTreesSpec)

/-- ITS FALSE NEIGHBOUR: 'it returns false'. Refute it at one input. -/
def gyoTreesWrong : ChangeSpec := { name := "gyoTrees", fn := fun _ => fun
  | [d] => { results := [.lit (.bool false)], args := [d] }
  | _ => none }
def GyoTreesWrongFalsely : Prop := gyoTreesRow.holds Try.pinned (OpenSpec.ofChange gyoTreesWrong)

/-- 'trommellaw23.JtreeTells': WHATEVER THE INPUT: true; the input reads as it did. -/
def jtreeTellsSpec : ChangeSpec := { name := "jtreeTells", fn := fun _ => fun
  | [d1, d2, d3] => { results := [.lit (.bool true)], args := [d1, d2, d3] }
  | _ => none }
def jtreeTellsRow : OpenClaim := { program := "ytjohbaelponpeaa", sum := "cf2c65531666c5b476db15d2436e986f5fd11aae219e2d58dc87de499172ad17", func := "trommel/trommellaw23.JtreeTells", spec := "jtreeTells", unfollowed := true, recurses := true, plainKeys := false, apart := false }
def JtreeTellsSaid : Prop := jtreeTellsRow.holds Try.pinned (OpenSpec.ofChange jtreeTellsSpec)

/-- ITS FALSE NEIGHBOUR: 'it returns false'. Refute it at one input. -/
def jtreeTellsWrong : ChangeSpec := { name := "jtreeTells", fn := fun _ => fun
  | [d1, d2, d3] => { results := [.lit (.bool false)], args := [d1, d2, d3] }
  | _ => none }
def JtreeTellsWrongFalsely : Prop := jtreeTellsRow.holds Try.pinned (OpenSpec.ofChange jtreeTellsWrong)

/-- 'trommellaw23.JtreeRoots': WHATEVER THE INPUT: true; the input reads as it did. -/
def jtreeRootsSpec : ChangeSpec := { name := "jtreeRoots", fn := fun _ => fun
  | [d1, d2, d3] => { results := [.lit (.bool true)], args := [d1, d2, d3] }
  | _ => none }
def jtreeRootsRow : OpenClaim := { program := "ytjohbaelponpeaa", sum := "cf2c65531666c5b476db15d2436e986f5fd11aae219e2d58dc87de499172ad17", func := "trommel/trommellaw23.JtreeRoots", spec := "jtreeRoots", unfollowed := true, recurses := true, plainKeys := false, apart := false }
def JtreeRootsSaid : Prop := jtreeRootsRow.holds Try.pinned (OpenSpec.ofChange jtreeRootsSpec)

/-- ITS FALSE NEIGHBOUR: 'it returns false'. Refute it at one input. -/
def jtreeRootsWrong : ChangeSpec := { name := "jtreeRoots", fn := fun _ => fun
  | [d1, d2, d3] => { results := [.lit (.bool false)], args := [d1, d2, d3] }
  | _ => none }
def JtreeRootsWrongFalsely : Prop := jtreeRootsRow.holds Try.pinned (OpenSpec.ofChange jtreeRootsWrong)

/-- 'trommellaw23.JtreeEars': WHATEVER THE INPUT: true; the input reads as it did. -/
def jtreeEarsSpec : ChangeSpec := { name := "jtreeEars", fn := fun _ => fun
  | [d1, d2] => { results := [.lit (.bool true)], args := [d1, d2] }
  | _ => none }
def jtreeEarsRow : OpenClaim := { program := "ytjohbaelponpeaa", sum := "cf2c65531666c5b476db15d2436e986f5fd11aae219e2d58dc87de499172ad17", func := "trommel/trommellaw23.JtreeEars", spec := "jtreeEars", unfollowed := true, recurses := true, plainKeys := false, apart := false }
def JtreeEarsSaid : Prop := jtreeEarsRow.holds Try.pinned (OpenSpec.ofChange jtreeEarsSpec)

/-- ITS FALSE NEIGHBOUR: 'it returns false'. Refute it at one input. -/
def jtreeEarsWrong : ChangeSpec := { name := "jtreeEars", fn := fun _ => fun
  | [d1, d2] => { results := [.lit (.bool false)], args := [d1, d2] }
  | _ => none }
def JtreeEarsWrongFalsely : Prop := jtreeEarsRow.holds Try.pinned (OpenSpec.ofChange jtreeEarsWrong)

/-- 'trommellaw21.GraphOfs': WHATEVER THE INPUT: true; the input reads as it did. -/
def graphOfsSpec : ChangeSpec := { name := "graphOfs", fn := fun _ => fun
  | [d] => { results := [.lit (.bool true)], args := [d] }
  | _ => none }
def graphOfsRow : OpenClaim := { program := "ytjohbaelponpeaa", sum := "cf2c65531666c5b476db15d2436e986f5fd11aae219e2d58dc87de499172ad17", func := "trommel/trommellaw21.GraphOfs", spec := "graphOfs", unfollowed := true, recurses := true, loops := true, plainKeys := false, apart := false }
def GraphOfsSaid : Prop := graphOfsRow.holds Try.pinned (OpenSpec.ofChange graphOfsSpec)

/-- ITS FALSE NEIGHBOUR: 'it returns false'. Refute it at one input. -/
def graphOfsWrong : ChangeSpec := { name := "graphOfs", fn := fun _ => fun
  | [d] => { results := [.lit (.bool false)], args := [d] }
  | _ => none }
def GraphOfsWrongFalsely : Prop := graphOfsRow.holds Try.pinned (OpenSpec.ofChange graphOfsWrong)

/-- 'trommellaw06.UfAlls': WHATEVER THE INPUT: true; the input reads as it did. -/
def ufAllsSpec : ChangeSpec := { name := "ufAlls", fn := fun _ => fun
  | [d1, d2, d3] => { results := [.lit (.bool true)], args := [d1, d2, d3] }
  | _ => none }
def ufAllsRow : OpenClaim := { program := "ytjohbaelponpeaa", sum := "cf2c65531666c5b476db15d2436e986f5fd11aae219e2d58dc87de499172ad17", func := "trommel/trommellaw06.UfAlls", spec := "ufAlls", plainKeys := false, apart := false }
def UfAllsSaid : Prop := ufAllsRow.holds Try.pinned (OpenSpec.ofChange ufAllsSpec)

/-- ITS FALSE NEIGHBOUR: 'it returns false'. Refute it at one input. -/
def ufAllsWrong : ChangeSpec := { name := "ufAlls", fn := fun _ => fun
  | [d1, d2, d3] => { results := [.lit (.bool false)], args := [d1, d2, d3] }
  | _ => none }
def UfAllsWrongFalsely : Prop := ufAllsRow.holds Try.pinned (OpenSpec.ofChange ufAllsWrong)

/-- 'trommellaw27.HistOfs': WHATEVER THE INPUT: true; the input reads as it did. -/
def histOfsSpec : ChangeSpec := { name := "histOfs", fn := fun _ => fun
  | [d] => { results := [.lit (.bool true)], args := [d] }
  | _ => none }
def histOfsRow : OpenClaim := { program := "ytjohbaelponpeaa", sum := "cf2c65531666c5b476db15d2436e986f5fd11aae219e2d58dc87de499172ad17", func := "trommel/trommellaw27.HistOfs", spec := "histOfs", unfollowed := true, recurses := true, plainKeys := false, apart := false }
def HistOfsSaid : Prop := histOfsRow.holds Try.pinned (OpenSpec.ofChange histOfsSpec)

/-- ITS FALSE NEIGHBOUR: 'it returns false'. Refute it at one input. -/
def histOfsWrong : ChangeSpec := { name := "histOfs", fn := fun _ => fun
  | [d] => { results := [.lit (.bool false)], args := [d] }
  | _ => none }
def HistOfsWrongFalsely : Prop := histOfsRow.holds Try.pinned (OpenSpec.ofChange histOfsWrong)

/-- 'trommellaw16.NormClasses': WHATEVER THE INPUT: true; the input reads as it did. -/
def normClassesSpec : ChangeSpec := { name := "normClasses", fn := fun _ => fun
  | [d1, d2, d3, d4, d5] => { results := [.lit (.bool true)], args := [d1, d2, d3, d4, d5] }
  | _ => none }
def normClassesRow : OpenClaim := { program := "ytjohbaelponpeaa", sum := "cf2c65531666c5b476db15d2436e986f5fd11aae219e2d58dc87de499172ad17", func := "trommel/trommellaw16.NormClasses", spec := "normClasses", unfollowed := true, recurses := true, loops := true, plainKeys := false, apart := false }
def NormClassesSaid : Prop := normClassesRow.holds Try.pinned (OpenSpec.ofChange normClassesSpec)

/-- ITS FALSE NEIGHBOUR: 'it returns false'. Refute it at one input. -/
def normClassesWrong : ChangeSpec := { name := "normClasses", fn := fun _ => fun
  | [d1, d2, d3, d4, d5] => { results := [.lit (.bool false)], args := [d1, d2, d3, d4, d5] }
  | _ => none }
def NormClassesWrongFalsely : Prop := normClassesRow.holds Try.pinned (OpenSpec.ofChange normClassesWrong)

/- THE SECOND FORM. 'bulk': how many values and letters a reading holds, each counted each time it is reached (what is shared counts as often as it is met; a slice's spare places count too). A statement '..UptoSaid' is the law's where the arguments, and the package variables that the reading takes, are together of bulk at most 1048576: NARROWER than '..Said'. Prove '..Said' where nothing that the law and all that it calls make is longer than what came in: it says more and counts as full. Else prove '..UptoSaid'. A law counts once. -/
mutual
def uptoBulk {H : Type} : DataW H → Nat
  | .lit (.string bytes) => bytes.length + 1
  | .lit _ => 1
  | .nil => 1
  | .ptr d => uptoBulk d + 1
  | .slice elems spare => uptoBulkAll elems + uptoBulkAll spare + 1
  | .agg parts => uptoBulkAll parts + 1
  | .iface _ d => uptoBulk d + 1
  | .map entries => uptoBulkEntries entries + 1
  | .held _ => 1
def uptoBulkAll {H : Type} : List (DataW H) → Nat
  | [] => 0
  | d :: r => uptoBulk d + uptoBulkAll r
def uptoBulkEntries {H : Type} : List (Lit × DataW H) → Nat
  | [] => 0
  | x :: r => uptoBulkEntry x + uptoBulkEntries r
def uptoBulkEntry {H : Type} : Lit × DataW H → Nat
  | (.string bytes, d) => bytes.length + uptoBulk d + 1
  | (_, d) => uptoBulk d + 1
 end
def uptoSmall : (H : Type) → List (DataW H) → Bool := fun _ ds => decide (uptoBulkAll ds ≤ 1048576)
def OpenSpec.upto (s : _root_.Go.ChangeSpec) : _root_.Go.OpenSpec := { _root_.Go.OpenSpec.ofChange s with cond := some uptoSmall }

/-- 'trommellaw21.GraphTwo', WHERE WHAT IT READS IS OF BULK AT MOST 1048576: true; the input reads as it did. -/
def graphTwoUptoRow : OpenClaim := { program := "ytjohbaelponpeaa", sum := "cf2c65531666c5b476db15d2436e986f5fd11aae219e2d58dc87de499172ad17", func := "trommel/trommellaw21.GraphTwo", spec := "graphTwo", unfollowed := true, recurses := true, plainKeys := false, apart := false, narrowed := true }
def GraphTwoUptoSaid : Prop := graphTwoUptoRow.holds Try.pinned (OpenSpec.upto graphTwoSpec)

/-- 'trommellaw21.GraphTells', WHERE WHAT IT READS IS OF BULK AT MOST 1048576: true; the input reads as it did. -/
def graphTellsUptoRow : OpenClaim := { program := "ytjohbaelponpeaa", sum := "cf2c65531666c5b476db15d2436e986f5fd11aae219e2d58dc87de499172ad17", func := "trommel/trommellaw21.GraphTells", spec := "graphTells", recurses := true, plainKeys := false, apart := false, narrowed := true }
def GraphTellsUptoSaid : Prop := graphTellsUptoRow.holds Try.pinned (OpenSpec.upto graphTellsSpec)

/-- 'trommellaw22.GyoEars', WHERE WHAT IT READS IS OF BULK AT MOST 1048576: true; the input reads as it did. -/
def gyoEarsUptoRow : OpenClaim := { program := "ytjohbaelponpeaa", sum := "cf2c65531666c5b476db15d2436e986f5fd11aae219e2d58dc87de499172ad17", func := "trommel/trommellaw22.GyoEars", spec := "gyoEars", unfollowed := true, recurses := true, plainKeys := false, apart := false, narrowed := true }
def GyoEarsUptoSaid : Prop := gyoEarsUptoRow.holds Try.pinned (OpenSpec.upto gyoEarsSpec)

/-- 'trommellaw22.GyoParents', WHERE WHAT IT READS IS OF BULK AT MOST 1048576: true; the input reads as it did. -/
def gyoParentsUptoRow : OpenClaim := { program := "ytjohbaelponpeaa", sum := "cf2c65531666c5b476db15d2436e986f5fd11aae219e2d58dc87de499172ad17", func := "trommel/trommellaw22.GyoParents", spec := "gyoParents", unfollowed := true, recurses := true, plainKeys := false, apart := false, narrowed := true }
def GyoParentsUptoSaid : Prop := gyoParentsUptoRow.holds Try.pinned (OpenSpec.upto gyoParentsSpec)

/-- 'trommellaw22.GyoTrees', WHERE WHAT IT READS IS OF BULK AT MOST 1048576: true; the input reads as it did. -/
def gyoTreesUptoRow : OpenClaim := { program := "ytjohbaelponpeaa", sum := "cf2c65531666c5b476db15d2436e986f5fd11aae219e2d58dc87de499172ad17", func := "trommel/trommellaw22.GyoTrees", spec := "gyoTrees", unfollowed := true, recurses := true, plainKeys := false, apart := false, narrowed := true }
def GyoTreesUptoSaid : Prop := gyoTreesUptoRow.holds Try.pinned (OpenSpec.upto gyoTreesSpec)

/-- 'trommellaw23.JtreeTells', WHERE WHAT IT READS IS OF BULK AT MOST 1048576: true; the input reads as it did. -/
def jtreeTellsUptoRow : OpenClaim := { program := "ytjohbaelponpeaa", sum := "cf2c65531666c5b476db15d2436e986f5fd11aae219e2d58dc87de499172ad17", func := "trommel/trommellaw23.JtreeTells", spec := "jtreeTells", unfollowed := true, recurses := true, plainKeys := false, apart := false, narrowed := true }
def JtreeTellsUptoSaid : Prop := jtreeTellsUptoRow.holds Try.pinned (OpenSpec.upto jtreeTellsSpec)

/-- 'trommellaw23.JtreeRoots', WHERE WHAT IT READS IS OF BULK AT MOST 1048576: true; the input reads as it did. -/
def jtreeRootsUptoRow : OpenClaim := { program := "ytjohbaelponpeaa", sum := "cf2c65531666c5b476db15d2436e986f5fd11aae219e2d58dc87de499172ad17", func := "trommel/trommellaw23.JtreeRoots", spec := "jtreeRoots", unfollowed := true, recurses := true, plainKeys := false, apart := false, narrowed := true }
def JtreeRootsUptoSaid : Prop := jtreeRootsUptoRow.holds Try.pinned (OpenSpec.upto jtreeRootsSpec)

/-- 'trommellaw23.JtreeEars', WHERE WHAT IT READS IS OF BULK AT MOST 1048576: true; the input reads as it did. -/
def jtreeEarsUptoRow : OpenClaim := { program := "ytjohbaelponpeaa", sum := "cf2c65531666c5b476db15d2436e986f5fd11aae219e2d58dc87de499172ad17", func := "trommel/trommellaw23.JtreeEars", spec := "jtreeEars", unfollowed := true, recurses := true, plainKeys := false, apart := false, narrowed := true }
def JtreeEarsUptoSaid : Prop := jtreeEarsUptoRow.holds Try.pinned (OpenSpec.upto jtreeEarsSpec)

/-- 'trommellaw21.GraphOfs', WHERE WHAT IT READS IS OF BULK AT MOST 1048576: true; the input reads as it did. -/
def graphOfsUptoRow : OpenClaim := { program := "ytjohbaelponpeaa", sum := "cf2c65531666c5b476db15d2436e986f5fd11aae219e2d58dc87de499172ad17", func := "trommel/trommellaw21.GraphOfs", spec := "graphOfs", unfollowed := true, recurses := true, loops := true, plainKeys := false, apart := false, narrowed := true }
def GraphOfsUptoSaid : Prop := graphOfsUptoRow.holds Try.pinned (OpenSpec.upto graphOfsSpec)

/-- 'trommellaw06.UfAlls', WHERE WHAT IT READS IS OF BULK AT MOST 1048576: true; the input reads as it did. -/
def ufAllsUptoRow : OpenClaim := { program := "ytjohbaelponpeaa", sum := "cf2c65531666c5b476db15d2436e986f5fd11aae219e2d58dc87de499172ad17", func := "trommel/trommellaw06.UfAlls", spec := "ufAlls", plainKeys := false, apart := false, narrowed := true }
def UfAllsUptoSaid : Prop := ufAllsUptoRow.holds Try.pinned (OpenSpec.upto ufAllsSpec)

/-- 'trommellaw27.HistOfs', WHERE WHAT IT READS IS OF BULK AT MOST 1048576: true; the input reads as it did. -/
def histOfsUptoRow : OpenClaim := { program := "ytjohbaelponpeaa", sum := "cf2c65531666c5b476db15d2436e986f5fd11aae219e2d58dc87de499172ad17", func := "trommel/trommellaw27.HistOfs", spec := "histOfs", unfollowed := true, recurses := true, plainKeys := false, apart := false, narrowed := true }
def HistOfsUptoSaid : Prop := histOfsUptoRow.holds Try.pinned (OpenSpec.upto histOfsSpec)

/-- 'trommellaw16.NormClasses', WHERE WHAT IT READS IS OF BULK AT MOST 1048576: true; the input reads as it did. -/
def normClassesUptoRow : OpenClaim := { program := "ytjohbaelponpeaa", sum := "cf2c65531666c5b476db15d2436e986f5fd11aae219e2d58dc87de499172ad17", func := "trommel/trommellaw16.NormClasses", spec := "normClasses", unfollowed := true, recurses := true, loops := true, plainKeys := false, apart := false, narrowed := true }
def NormClassesUptoSaid : Prop := normClassesUptoRow.holds Try.pinned (OpenSpec.upto normClassesSpec)

end Rows
end Go.Proofs.Ytjohbaelponpeaa
