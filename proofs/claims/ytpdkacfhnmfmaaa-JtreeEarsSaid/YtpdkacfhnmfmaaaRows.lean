/-
  No cell of these rows narrows 'for every input' (looked for: loops, veiled, ifaces, maps, wideKeys, modest, calm, conditions, laid).
  DERIVED. THE GIVEN ROWS OF THIS SEAT. 4 by the template 'for every input the law returns true; each argument reads behind the call as it read before'; 0 by the template 'total and deterministic' (their statements: YtpdkacfhnmfmaaaTotals.lean).
  GIVEN WITH THE SEED: the statements are not yours to turn. If you find one false, say at which input.
  Laid BY PROGRAM, IN A SANDBOX (cutbox-rows.mjs): the forced cells as the released guide's own fill.sh prints them over the translation ef17525cf2d69bf7… (all of the seat's roots in one cut). By AI agents, Wed Nov 11 2026. No macro, syntax, notation, axiom, sorry.
-/
import Derived.Test.YtpdkacfhnmfmaaaChecked
import GoSem.Claim
import GoSem.ClaimJoined
import GoSem.ClaimMapViews
import Derived.JoinedTies
import Derived.KernelRfl
namespace Go.Proofs.Ytpdkacfhnmfmaaa
/- THE CELL 'sum', in the pinned program and in every row, IS THE sha256 OF THE DUMP (.gsa) THAT YtpdkacfhnmfmaaaProg.lean LOADS. Nothing in Lean hashes anything: it is a label: what it is worth is what the hold of that sum in a sandbox is worth. -/
noncomputable def Try.pinned : Pinned := { name := "ytpdkacfhnmfmaaa", sum := "ef17525cf2d69bf75abd191ce4e511214e6fca792fce87a7741df781f9521c3e", checked := Try.checked }
namespace Rows
def none {H : Type} : Left H := { results := [], args := [] }

/-- 'trommellaw22.GyoTrees': WHATEVER THE INPUT: true; the input reads as it did. -/
def gyoTreesSpec : ChangeSpec := { name := "gyoTrees", fn := fun _ => fun
  | [d] => { results := [.lit (.bool true)], args := [d] }
  | _ => none }
def gyoTreesRow : OpenClaim := { program := "ytpdkacfhnmfmaaa", sum := "ef17525cf2d69bf75abd191ce4e511214e6fca792fce87a7741df781f9521c3e", func := "trommel/trommellaw22.GyoTrees", spec := "gyoTrees", unfollowed := true, recurses := true, apart := false }
def GyoTreesSaid : Prop := gyoTreesRow.holds Try.pinned (OpenSpec.ofChange gyoTreesSpec)

/-- ITS FALSE NEIGHBOUR: 'it returns false'. Refute it at one input. -/
def gyoTreesWrong : ChangeSpec := { name := "gyoTrees", fn := fun _ => fun
  | [d] => { results := [.lit (.bool false)], args := [d] }
  | _ => none }
def GyoTreesWrongFalsely : Prop := gyoTreesRow.holds Try.pinned (OpenSpec.ofChange gyoTreesWrong)

/-- 'trommellaw23.JtreeTells': WHATEVER THE INPUT: true; the input reads as it did. -/
def jtreeTellsSpec : ChangeSpec := { name := "jtreeTells", fn := fun _ => fun
  | [d1, d2, d3] => { results := [.lit (.bool true)], args := [d1, d2, d3] }
  | _ => none }
def jtreeTellsRow : OpenClaim := { program := "ytpdkacfhnmfmaaa", sum := "ef17525cf2d69bf75abd191ce4e511214e6fca792fce87a7741df781f9521c3e", func := "trommel/trommellaw23.JtreeTells", spec := "jtreeTells", unfollowed := true, recurses := true, apart := false }
def JtreeTellsSaid : Prop := jtreeTellsRow.holds Try.pinned (OpenSpec.ofChange jtreeTellsSpec)

/-- ITS FALSE NEIGHBOUR: 'it returns false'. Refute it at one input. -/
def jtreeTellsWrong : ChangeSpec := { name := "jtreeTells", fn := fun _ => fun
  | [d1, d2, d3] => { results := [.lit (.bool false)], args := [d1, d2, d3] }
  | _ => none }
def JtreeTellsWrongFalsely : Prop := jtreeTellsRow.holds Try.pinned (OpenSpec.ofChange jtreeTellsWrong)

/-- 'trommellaw23.JtreeRoots': WHATEVER THE INPUT: true; the input reads as it did. -/
def jtreeRootsSpec : ChangeSpec := { name := "jtreeRoots", fn := fun _ => fun
  | [d1, d2, d3] => { results := [.lit (.bool true)], args := [d1, d2, d3] }
  | _ => none }
def jtreeRootsRow : OpenClaim := { program := "ytpdkacfhnmfmaaa", sum := "ef17525cf2d69bf75abd191ce4e511214e6fca792fce87a7741df781f9521c3e", func := "trommel/trommellaw23.JtreeRoots", spec := "jtreeRoots", unfollowed := true, recurses := true, apart := false }
def JtreeRootsSaid : Prop := jtreeRootsRow.holds Try.pinned (OpenSpec.ofChange jtreeRootsSpec)

/-- ITS FALSE NEIGHBOUR: 'it returns false'. Refute it at one input. -/
def jtreeRootsWrong : ChangeSpec := { name := "jtreeRoots", fn := fun _ => fun
  | [d1, d2, d3] => { results := [.lit (.bool false)], args := [d1, d2, d3] }
  | _ => none }
def JtreeRootsWrongFalsely : Prop := jtreeRootsRow.holds Try.pinned (OpenSpec.ofChange jtreeRootsWrong)

/-- 'trommellaw23.JtreeEars': WHATEVER THE INPUT: true; the input reads as it did. -/
def jtreeEarsSpec : ChangeSpec := { name := "jtreeEars", fn := fun _ => fun
  | [d1, d2] => { results := [.lit (.bool true)], args := [d1, d2] }
  | _ => none }
def jtreeEarsRow : OpenClaim := { program := "ytpdkacfhnmfmaaa", sum := "ef17525cf2d69bf75abd191ce4e511214e6fca792fce87a7741df781f9521c3e", func := "trommel/trommellaw23.JtreeEars", spec := "jtreeEars", unfollowed := true, recurses := true, apart := false }
def JtreeEarsSaid : Prop := jtreeEarsRow.holds Try.pinned (OpenSpec.ofChange jtreeEarsSpec)

/-- ITS FALSE NEIGHBOUR: 'it returns false'. Refute it at one input. -/
def jtreeEarsWrong : ChangeSpec := { name := "jtreeEars", fn := fun _ => fun
  | [d1, d2] => { results := [.lit (.bool false)], args := [d1, d2] }
  | _ => none }
def JtreeEarsWrongFalsely : Prop := jtreeEarsRow.holds Try.pinned (OpenSpec.ofChange jtreeEarsWrong)

/- THE SECOND FORM. 'bulk': how many values and letters a reading holds, each counted each time it is reached (what is shared counts as often as it is met; a slice's spare places count too). A statement '..UptoSaid' is the law's where the arguments, and the package variables that the reading takes, are together of bulk at most 1048576: NARROWER than '..Said'. Prove '..Said' where nothing that the law and all that it calls make is longer than what came in: it says more and counts as full. Else prove '..UptoSaid'. A law counts once. -/
mutual
def uptoBulk {H : Type} : DataW H → Nat
  | .lit (.string bytes) => bytes.length + 1
  | .lit _ => 1
  | .nil => 1
  | .ptr d => uptoBulk d + 1
  | .slice elems spare => uptoBulkAll elems + uptoBulkAll spare + 1
  | .agg parts => uptoBulkAll parts + 1
  | .iface _ d => uptoBulk d + 1
  | .map entries => uptoBulkEntries entries + 1
  | .held _ => 1
def uptoBulkAll {H : Type} : List (DataW H) → Nat
  | [] => 0
  | d :: r => uptoBulk d + uptoBulkAll r
def uptoBulkEntries {H : Type} : List (Lit × DataW H) → Nat
  | [] => 0
  | x :: r => uptoBulkEntry x + uptoBulkEntries r
def uptoBulkEntry {H : Type} : Lit × DataW H → Nat
  | (.string bytes, d) => bytes.length + uptoBulk d + 1
  | (_, d) => uptoBulk d + 1
 end
def uptoSmall : (H : Type) → List (DataW H) → Bool := fun _ ds => decide (uptoBulkAll ds ≤ 1048576)
def OpenSpec.upto (s : _root_.Go.ChangeSpec) : _root_.Go.OpenSpec := { _root_.Go.OpenSpec.ofChange s with cond := some uptoSmall }

/-- 'trommellaw22.GyoTrees', WHERE WHAT IT READS IS OF BULK AT MOST 1048576: true; the input reads as it did. -/
def gyoTreesUptoRow : OpenClaim := { program := "ytpdkacfhnmfmaaa", sum := "ef17525cf2d69bf75abd191ce4e511214e6fca792fce87a7741df781f9521c3e", func := "trommel/trommellaw22.GyoTrees", spec := "gyoTrees", unfollowed := true, recurses := true, apart := false, narrowed := true }
def GyoTreesUptoSaid : Prop := gyoTreesUptoRow.holds Try.pinned (OpenSpec.upto gyoTreesSpec)

/-- 'trommellaw23.JtreeTells', WHERE WHAT IT READS IS OF BULK AT MOST 1048576: true; the input reads as it did. -/
def jtreeTellsUptoRow : OpenClaim := { program := "ytpdkacfhnmfmaaa", sum := "ef17525cf2d69bf75abd191ce4e511214e6fca792fce87a7741df781f9521c3e", func := "trommel/trommellaw23.JtreeTells", spec := "jtreeTells", unfollowed := true, recurses := true, apart := false, narrowed := true }
def JtreeTellsUptoSaid : Prop := jtreeTellsUptoRow.holds Try.pinned (OpenSpec.upto jtreeTellsSpec)

/-- 'trommellaw23.JtreeRoots', WHERE WHAT IT READS IS OF BULK AT MOST 1048576: true; the input reads as it did. -/
def jtreeRootsUptoRow : OpenClaim := { program := "ytpdkacfhnmfmaaa", sum := "ef17525cf2d69bf75abd191ce4e511214e6fca792fce87a7741df781f9521c3e", func := "trommel/trommellaw23.JtreeRoots", spec := "jtreeRoots", unfollowed := true, recurses := true, apart := false, narrowed := true }
def JtreeRootsUptoSaid : Prop := jtreeRootsUptoRow.holds Try.pinned (OpenSpec.upto jtreeRootsSpec)

/-- 'trommellaw23.JtreeEars', WHERE WHAT IT READS IS OF BULK AT MOST 1048576: true; the input reads as it did. -/
def jtreeEarsUptoRow : OpenClaim := { program := "ytpdkacfhnmfmaaa", sum := "ef17525cf2d69bf75abd191ce4e511214e6fca792fce87a7741df781f9521c3e", func := "trommel/trommellaw23.JtreeEars", spec := "jtreeEars", unfollowed := true, recurses := true, apart := false, narrowed := true }
def JtreeEarsUptoSaid : Prop := jtreeEarsUptoRow.holds Try.pinned (OpenSpec.upto jtreeEarsSpec)

end Rows
end Go.Proofs.Ytpdkacfhnmfmaaa
