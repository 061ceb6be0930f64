/-
  NARROWER THAN 'FOR EVERY INPUT', by the rows' own cells (each row's printed sentence says how): ReadyBounds: loops.
  DERIVED. THE GIVEN ROWS OF THIS SEAT. 12 by the template 'for every input the law returns true; each argument reads behind the call as it read before'; 0 by the template 'total and deterministic' (their statements: YthngafgblehpoaaTotals.lean).
  GIVEN WITH THE SEED: the statements are not yours to turn. If you find one false, say at which input.
  Laid BY PROGRAM, IN A SANDBOX (cutbox-rows.mjs): the forced cells as the released guide's own fill.sh prints them over the translation 5f85fb0dc61c63c9… (all of the seat's roots in one cut). By AI agents, Wed Nov 11 2026. No macro, syntax, notation, axiom, sorry.
-/
import Derived.Test.YthngafgblehpoaaChecked
import GoSem.Claim
import GoSem.ClaimJoined
import GoSem.ClaimMapViews
import Derived.JoinedTies
import Derived.KernelRfl
namespace Go.Proofs.Ythngafgblehpoaa
/- THE CELL 'sum', in the pinned program and in every row, IS THE sha256 OF THE DUMP (.gsa) THAT YthngafgblehpoaaProg.lean LOADS. Nothing in Lean hashes anything: it is a label: what it is worth is what the hold of that sum in a sandbox is worth. -/
noncomputable def Try.pinned : Pinned := { name := "ythngafgblehpoaa", sum := "5f85fb0dc61c63c9d40a505eba5fecc7ba6d18909b7707fe454db4afc586b3c8", checked := Try.checked }
namespace Rows
def none {H : Type} : Left H := { results := [], args := [] }

/-- 'trommellaw06.UfJoins': WHATEVER THE INPUT: true; the input reads as it did. -/
def ufJoinsSpec : ChangeSpec := { name := "ufJoins", fn := fun _ => fun
  | [d1, d2, d3, d4] => { results := [.lit (.bool true)], args := [d1, d2, d3, d4] }
  | _ => none }
def ufJoinsRow : OpenClaim := { program := "ythngafgblehpoaa", sum := "5f85fb0dc61c63c9d40a505eba5fecc7ba6d18909b7707fe454db4afc586b3c8", func := "trommel/trommellaw06.UfJoins", spec := "ufJoins", apart := false }
def UfJoinsSaid : Prop := ufJoinsRow.holds Try.pinned (OpenSpec.ofChange ufJoinsSpec)

/-- ITS FALSE NEIGHBOUR: 'it returns false'. Refute it at one input. -/
def ufJoinsWrong : ChangeSpec := { name := "ufJoins", fn := fun _ => fun
  | [d1, d2, d3, d4] => { results := [.lit (.bool false)], args := [d1, d2, d3, d4] }
  | _ => none }
def UfJoinsWrongFalsely : Prop := ufJoinsRow.holds Try.pinned (OpenSpec.ofChange ufJoinsWrong)

/-- 'trommellaw06.UfAlls': WHATEVER THE INPUT: true; the input reads as it did. -/
def ufAllsSpec : ChangeSpec := { name := "ufAlls", fn := fun _ => fun
  | [d1, d2, d3] => { results := [.lit (.bool true)], args := [d1, d2, d3] }
  | _ => none }
def ufAllsRow : OpenClaim := { program := "ythngafgblehpoaa", sum := "5f85fb0dc61c63c9d40a505eba5fecc7ba6d18909b7707fe454db4afc586b3c8", func := "trommel/trommellaw06.UfAlls", spec := "ufAlls", apart := false }
def UfAllsSaid : Prop := ufAllsRow.holds Try.pinned (OpenSpec.ofChange ufAllsSpec)

/-- ITS FALSE NEIGHBOUR: 'it returns false'. Refute it at one input. -/
def ufAllsWrong : ChangeSpec := { name := "ufAlls", fn := fun _ => fun
  | [d1, d2, d3] => { results := [.lit (.bool false)], args := [d1, d2, d3] }
  | _ => none }
def UfAllsWrongFalsely : Prop := ufAllsRow.holds Try.pinned (OpenSpec.ofChange ufAllsWrong)

/-- 'trommellaw06.UfOrders': WHATEVER THE INPUT: true; the input reads as it did. -/
def ufOrdersSpec : ChangeSpec := { name := "ufOrders", fn := fun _ => fun
  | [d1, d2, d3, d4, d5] => { results := [.lit (.bool true)], args := [d1, d2, d3, d4, d5] }
  | _ => none }
def ufOrdersRow : OpenClaim := { program := "ythngafgblehpoaa", sum := "5f85fb0dc61c63c9d40a505eba5fecc7ba6d18909b7707fe454db4afc586b3c8", func := "trommel/trommellaw06.UfOrders", spec := "ufOrders", apart := false }
def UfOrdersSaid : Prop := ufOrdersRow.holds Try.pinned (OpenSpec.ofChange ufOrdersSpec)

/-- ITS FALSE NEIGHBOUR: 'it returns false'. Refute it at one input. -/
def ufOrdersWrong : ChangeSpec := { name := "ufOrders", fn := fun _ => fun
  | [d1, d2, d3, d4, d5] => { results := [.lit (.bool false)], args := [d1, d2, d3, d4, d5] }
  | _ => none }
def UfOrdersWrongFalsely : Prop := ufOrdersRow.holds Try.pinned (OpenSpec.ofChange ufOrdersWrong)

/-- 'trommellaw19.SpanTells': WHATEVER THE INPUT: true; the input reads as it did. -/
def spanTellsSpec : ChangeSpec := { name := "spanTells", fn := fun _ => fun
  | [d1, d2, d3] => { results := [.lit (.bool true)], args := [d1, d2, d3] }
  | _ => none }
def spanTellsRow : OpenClaim := { program := "ythngafgblehpoaa", sum := "5f85fb0dc61c63c9d40a505eba5fecc7ba6d18909b7707fe454db4afc586b3c8", func := "trommel/trommellaw19.SpanTells", spec := "spanTells", inPlace := ["internal/bytealg.abigen_runtime_cmpstring"], apart := false }
def SpanTellsSaid : Prop := spanTellsRow.holds Try.pinned (OpenSpec.ofChange spanTellsSpec)

/-- ITS FALSE NEIGHBOUR: 'it returns false'. Refute it at one input. -/
def spanTellsWrong : ChangeSpec := { name := "spanTells", fn := fun _ => fun
  | [d1, d2, d3] => { results := [.lit (.bool false)], args := [d1, d2, d3] }
  | _ => none }
def SpanTellsWrongFalsely : Prop := spanTellsRow.holds Try.pinned (OpenSpec.ofChange spanTellsWrong)

/-- 'trommellaw19.SpanKeeps': WHATEVER THE INPUT: true; the input reads as it did. -/
def spanKeepsSpec : ChangeSpec := { name := "spanKeeps", fn := fun _ => fun
  | [d1, d2] => { results := [.lit (.bool true)], args := [d1, d2] }
  | _ => none }
def spanKeepsRow : OpenClaim := { program := "ythngafgblehpoaa", sum := "5f85fb0dc61c63c9d40a505eba5fecc7ba6d18909b7707fe454db4afc586b3c8", func := "trommel/trommellaw19.SpanKeeps", spec := "spanKeeps", inPlace := ["internal/bytealg.abigen_runtime_cmpstring"], apart := false }
def SpanKeepsSaid : Prop := spanKeepsRow.holds Try.pinned (OpenSpec.ofChange spanKeepsSpec)

/-- ITS FALSE NEIGHBOUR: 'it returns false'. Refute it at one input. -/
def spanKeepsWrong : ChangeSpec := { name := "spanKeeps", fn := fun _ => fun
  | [d1, d2] => { results := [.lit (.bool false)], args := [d1, d2] }
  | _ => none }
def SpanKeepsWrongFalsely : Prop := spanKeepsRow.holds Try.pinned (OpenSpec.ofChange spanKeepsWrong)

/-- 'trommellaw18.BloomPlays': WHATEVER THE INPUT: true; the input reads as it did. -/
def bloomPlaysSpec : ChangeSpec := { name := "bloomPlays", fn := fun _ => fun
  | [d1, d2, d3, d4] => { results := [.lit (.bool true)], args := [d1, d2, d3, d4] }
  | _ => none }
def bloomPlaysRow : OpenClaim := { program := "ythngafgblehpoaa", sum := "5f85fb0dc61c63c9d40a505eba5fecc7ba6d18909b7707fe454db4afc586b3c8", func := "trommel/trommellaw18.BloomPlays", spec := "bloomPlays", apart := false }
def BloomPlaysSaid : Prop := bloomPlaysRow.holds Try.pinned (OpenSpec.ofChange bloomPlaysSpec)

/-- ITS FALSE NEIGHBOUR: 'it returns false'. Refute it at one input. -/
def bloomPlaysWrong : ChangeSpec := { name := "bloomPlays", fn := fun _ => fun
  | [d1, d2, d3, d4] => { results := [.lit (.bool false)], args := [d1, d2, d3, d4] }
  | _ => none }
def BloomPlaysWrongFalsely : Prop := bloomPlaysRow.holds Try.pinned (OpenSpec.ofChange bloomPlaysWrong)

/-- 'trommellaw18.BloomKeeps': WHATEVER THE INPUT: true; the input reads as it did. -/
def bloomKeepsSpec : ChangeSpec := { name := "bloomKeeps", fn := fun _ => fun
  | [d1, d2, d3, d4] => { results := [.lit (.bool true)], args := [d1, d2, d3, d4] }
  | _ => none }
def bloomKeepsRow : OpenClaim := { program := "ythngafgblehpoaa", sum := "5f85fb0dc61c63c9d40a505eba5fecc7ba6d18909b7707fe454db4afc586b3c8", func := "trommel/trommellaw18.BloomKeeps", spec := "bloomKeeps", apart := false }
def BloomKeepsSaid : Prop := bloomKeepsRow.holds Try.pinned (OpenSpec.ofChange bloomKeepsSpec)

/-- ITS FALSE NEIGHBOUR: 'it returns false'. Refute it at one input. -/
def bloomKeepsWrong : ChangeSpec := { name := "bloomKeeps", fn := fun _ => fun
  | [d1, d2, d3, d4] => { results := [.lit (.bool false)], args := [d1, d2, d3, d4] }
  | _ => none }
def BloomKeepsWrongFalsely : Prop := bloomKeepsRow.holds Try.pinned (OpenSpec.ofChange bloomKeepsWrong)

/-- 'trommellaw18.BloomSizes': WHATEVER THE INPUT: true; the input reads as it did. -/
def bloomSizesSpec : ChangeSpec := { name := "bloomSizes", fn := fun _ => fun
  | [d1, d2, d3, d4, d5] => { results := [.lit (.bool true)], args := [d1, d2, d3, d4, d5] }
  | _ => none }
def bloomSizesRow : OpenClaim := { program := "ythngafgblehpoaa", sum := "5f85fb0dc61c63c9d40a505eba5fecc7ba6d18909b7707fe454db4afc586b3c8", func := "trommel/trommellaw18.BloomSizes", spec := "bloomSizes", apart := false }
def BloomSizesSaid : Prop := bloomSizesRow.holds Try.pinned (OpenSpec.ofChange bloomSizesSpec)

/-- ITS FALSE NEIGHBOUR: 'it returns false'. Refute it at one input. -/
def bloomSizesWrong : ChangeSpec := { name := "bloomSizes", fn := fun _ => fun
  | [d1, d2, d3, d4, d5] => { results := [.lit (.bool false)], args := [d1, d2, d3, d4, d5] }
  | _ => none }
def BloomSizesWrongFalsely : Prop := bloomSizesRow.holds Try.pinned (OpenSpec.ofChange bloomSizesWrong)

/-- 'trommellaw39.CodeInts': WHATEVER THE INPUT: true; the input reads as it did. -/
def codeIntsSpec : ChangeSpec := { name := "codeInts", fn := fun _ => fun
  | [d1, d2, d3, d4] => { results := [.lit (.bool true)], args := [d1, d2, d3, d4] }
  | _ => none }
def codeIntsRow : OpenClaim := { program := "ythngafgblehpoaa", sum := "5f85fb0dc61c63c9d40a505eba5fecc7ba6d18909b7707fe454db4afc586b3c8", func := "trommel/trommellaw39.CodeInts", spec := "codeInts", apart := false }
def CodeIntsSaid : Prop := codeIntsRow.holds Try.pinned (OpenSpec.ofChange codeIntsSpec)

/-- ITS FALSE NEIGHBOUR: 'it returns false'. Refute it at one input. -/
def codeIntsWrong : ChangeSpec := { name := "codeInts", fn := fun _ => fun
  | [d1, d2, d3, d4] => { results := [.lit (.bool false)], args := [d1, d2, d3, d4] }
  | _ => none }
def CodeIntsWrongFalsely : Prop := codeIntsRow.holds Try.pinned (OpenSpec.ofChange codeIntsWrong)

/-- 'trommellaw39.CodePuts': WHATEVER THE INPUT: true; the input reads as it did. -/
def codePutsSpec : ChangeSpec := { name := "codePuts", fn := fun _ => fun
  | [d] => { results := [.lit (.bool true)], args := [d] }
  | _ => none }
def codePutsRow : OpenClaim := { program := "ythngafgblehpoaa", sum := "5f85fb0dc61c63c9d40a505eba5fecc7ba6d18909b7707fe454db4afc586b3c8", func := "trommel/trommellaw39.CodePuts", spec := "codePuts", apart := false }
def CodePutsSaid : Prop := codePutsRow.holds Try.pinned (OpenSpec.ofChange codePutsSpec)

/-- ITS FALSE NEIGHBOUR: 'it returns false'. Refute it at one input. -/
def codePutsWrong : ChangeSpec := { name := "codePuts", fn := fun _ => fun
  | [d] => { results := [.lit (.bool false)], args := [d] }
  | _ => none }
def CodePutsWrongFalsely : Prop := codePutsRow.holds Try.pinned (OpenSpec.ofChange codePutsWrong)

/-- 'trommellaw23.JtreeTells': WHATEVER THE INPUT: true; the input reads as it did. -/
def jtreeTellsSpec : ChangeSpec := { name := "jtreeTells", fn := fun _ => fun
  | [d1, d2, d3] => { results := [.lit (.bool true)], args := [d1, d2, d3] }
  | _ => none }
def jtreeTellsRow : OpenClaim := { program := "ythngafgblehpoaa", sum := "5f85fb0dc61c63c9d40a505eba5fecc7ba6d18909b7707fe454db4afc586b3c8", func := "trommel/trommellaw23.JtreeTells", spec := "jtreeTells", unfollowed := true, recurses := true, apart := false }
def JtreeTellsSaid : Prop := jtreeTellsRow.holds Try.pinned (OpenSpec.ofChange jtreeTellsSpec)

/-- ITS FALSE NEIGHBOUR: 'it returns false'. Refute it at one input. -/
def jtreeTellsWrong : ChangeSpec := { name := "jtreeTells", fn := fun _ => fun
  | [d1, d2, d3] => { results := [.lit (.bool false)], args := [d1, d2, d3] }
  | _ => none }
def JtreeTellsWrongFalsely : Prop := jtreeTellsRow.holds Try.pinned (OpenSpec.ofChange jtreeTellsWrong)

/-- 'trommellaw33.ReadyBounds': WHATEVER THE INPUT: true; the input reads as it did. -/
def readyBoundsSpec : ChangeSpec := { name := "readyBounds", fn := fun _ => fun
  | [d1, d2, d3, d4] => { results := [.lit (.bool true)], args := [d1, d2, d3, d4] }
  | _ => none }
def readyBoundsRow : OpenClaim := { program := "ythngafgblehpoaa", sum := "5f85fb0dc61c63c9d40a505eba5fecc7ba6d18909b7707fe454db4afc586b3c8", func := "trommel/trommellaw33.ReadyBounds", spec := "readyBounds", unfollowed := true, recurses := true, loops := true, apart := false }
def ReadyBoundsSaid : Prop := readyBoundsRow.holds Try.pinned (OpenSpec.ofChange readyBoundsSpec)

/-- ITS FALSE NEIGHBOUR: 'it returns false'. Refute it at one input. -/
def readyBoundsWrong : ChangeSpec := { name := "readyBounds", fn := fun _ => fun
  | [d1, d2, d3, d4] => { results := [.lit (.bool false)], args := [d1, d2, d3, d4] }
  | _ => none }
def ReadyBoundsWrongFalsely : Prop := readyBoundsRow.holds Try.pinned (OpenSpec.ofChange readyBoundsWrong)

/- THE SECOND FORM. 'bulk': how many values and letters a reading holds, each counted each time it is reached (what is shared counts as often as it is met; a slice's spare places count too). A statement '..UptoSaid' is the law's where the arguments, and the package variables that the reading takes, are together of bulk at most 1048576: NARROWER than '..Said'. Prove '..Said' where nothing that the law and all that it calls make is longer than what came in: it says more and counts as full. Else prove '..UptoSaid'. A law counts once. -/
mutual
def uptoBulk {H : Type} : DataW H → Nat
  | .lit (.string bytes) => bytes.length + 1
  | .lit _ => 1
  | .nil => 1
  | .ptr d => uptoBulk d + 1
  | .slice elems spare => uptoBulkAll elems + uptoBulkAll spare + 1
  | .agg parts => uptoBulkAll parts + 1
  | .iface _ d => uptoBulk d + 1
  | .map entries => uptoBulkEntries entries + 1
  | .held _ => 1
def uptoBulkAll {H : Type} : List (DataW H) → Nat
  | [] => 0
  | d :: r => uptoBulk d + uptoBulkAll r
def uptoBulkEntries {H : Type} : List (Lit × DataW H) → Nat
  | [] => 0
  | x :: r => uptoBulkEntry x + uptoBulkEntries r
def uptoBulkEntry {H : Type} : Lit × DataW H → Nat
  | (.string bytes, d) => bytes.length + uptoBulk d + 1
  | (_, d) => uptoBulk d + 1
 end
def uptoSmall : (H : Type) → List (DataW H) → Bool := fun _ ds => decide (uptoBulkAll ds ≤ 1048576)
def OpenSpec.upto (s : _root_.Go.ChangeSpec) : _root_.Go.OpenSpec := { _root_.Go.OpenSpec.ofChange s with cond := some uptoSmall }

/-- 'trommellaw06.UfJoins', WHERE WHAT IT READS IS OF BULK AT MOST 1048576: true; the input reads as it did. -/
def ufJoinsUptoRow : OpenClaim := { program := "ythngafgblehpoaa", sum := "5f85fb0dc61c63c9d40a505eba5fecc7ba6d18909b7707fe454db4afc586b3c8", func := "trommel/trommellaw06.UfJoins", spec := "ufJoins", apart := false, narrowed := true }
def UfJoinsUptoSaid : Prop := ufJoinsUptoRow.holds Try.pinned (OpenSpec.upto ufJoinsSpec)

/-- 'trommellaw06.UfAlls', WHERE WHAT IT READS IS OF BULK AT MOST 1048576: true; the input reads as it did. -/
def ufAllsUptoRow : OpenClaim := { program := "ythngafgblehpoaa", sum := "5f85fb0dc61c63c9d40a505eba5fecc7ba6d18909b7707fe454db4afc586b3c8", func := "trommel/trommellaw06.UfAlls", spec := "ufAlls", apart := false, narrowed := true }
def UfAllsUptoSaid : Prop := ufAllsUptoRow.holds Try.pinned (OpenSpec.upto ufAllsSpec)

/-- 'trommellaw06.UfOrders', WHERE WHAT IT READS IS OF BULK AT MOST 1048576: true; the input reads as it did. -/
def ufOrdersUptoRow : OpenClaim := { program := "ythngafgblehpoaa", sum := "5f85fb0dc61c63c9d40a505eba5fecc7ba6d18909b7707fe454db4afc586b3c8", func := "trommel/trommellaw06.UfOrders", spec := "ufOrders", apart := false, narrowed := true }
def UfOrdersUptoSaid : Prop := ufOrdersUptoRow.holds Try.pinned (OpenSpec.upto ufOrdersSpec)

/-- 'trommellaw19.SpanTells', WHERE WHAT IT READS IS OF BULK AT MOST 1048576: true; the input reads as it did. -/
def spanTellsUptoRow : OpenClaim := { program := "ythngafgblehpoaa", sum := "5f85fb0dc61c63c9d40a505eba5fecc7ba6d18909b7707fe454db4afc586b3c8", func := "trommel/trommellaw19.SpanTells", spec := "spanTells", inPlace := ["internal/bytealg.abigen_runtime_cmpstring"], apart := false, narrowed := true }
def SpanTellsUptoSaid : Prop := spanTellsUptoRow.holds Try.pinned (OpenSpec.upto spanTellsSpec)

/-- 'trommellaw19.SpanKeeps', WHERE WHAT IT READS IS OF BULK AT MOST 1048576: true; the input reads as it did. -/
def spanKeepsUptoRow : OpenClaim := { program := "ythngafgblehpoaa", sum := "5f85fb0dc61c63c9d40a505eba5fecc7ba6d18909b7707fe454db4afc586b3c8", func := "trommel/trommellaw19.SpanKeeps", spec := "spanKeeps", inPlace := ["internal/bytealg.abigen_runtime_cmpstring"], apart := false, narrowed := true }
def SpanKeepsUptoSaid : Prop := spanKeepsUptoRow.holds Try.pinned (OpenSpec.upto spanKeepsSpec)

/-- 'trommellaw18.BloomPlays', WHERE WHAT IT READS IS OF BULK AT MOST 1048576: true; the input reads as it did. -/
def bloomPlaysUptoRow : OpenClaim := { program := "ythngafgblehpoaa", sum := "5f85fb0dc61c63c9d40a505eba5fecc7ba6d18909b7707fe454db4afc586b3c8", func := "trommel/trommellaw18.BloomPlays", spec := "bloomPlays", apart := false, narrowed := true }
def BloomPlaysUptoSaid : Prop := bloomPlaysUptoRow.holds Try.pinned (OpenSpec.upto bloomPlaysSpec)

/-- 'trommellaw18.BloomKeeps', WHERE WHAT IT READS IS OF BULK AT MOST 1048576: true; the input reads as it did. -/
def bloomKeepsUptoRow : OpenClaim := { program := "ythngafgblehpoaa", sum := "5f85fb0dc61c63c9d40a505eba5fecc7ba6d18909b7707fe454db4afc586b3c8", func := "trommel/trommellaw18.BloomKeeps", spec := "bloomKeeps", apart := false, narrowed := true }
def BloomKeepsUptoSaid : Prop := bloomKeepsUptoRow.holds Try.pinned (OpenSpec.upto bloomKeepsSpec)

/-- 'trommellaw18.BloomSizes', WHERE WHAT IT READS IS OF BULK AT MOST 1048576: true; the input reads as it did. -/
def bloomSizesUptoRow : OpenClaim := { program := "ythngafgblehpoaa", sum := "5f85fb0dc61c63c9d40a505eba5fecc7ba6d18909b7707fe454db4afc586b3c8", func := "trommel/trommellaw18.BloomSizes", spec := "bloomSizes", apart := false, narrowed := true }
def BloomSizesUptoSaid : Prop := bloomSizesUptoRow.holds Try.pinned (OpenSpec.upto bloomSizesSpec)

/-- 'trommellaw39.CodeInts', WHERE WHAT IT READS IS OF BULK AT MOST 1048576: true; the input reads as it did. -/
def codeIntsUptoRow : OpenClaim := { program := "ythngafgblehpoaa", sum := "5f85fb0dc61c63c9d40a505eba5fecc7ba6d18909b7707fe454db4afc586b3c8", func := "trommel/trommellaw39.CodeInts", spec := "codeInts", apart := false, narrowed := true }
def CodeIntsUptoSaid : Prop := codeIntsUptoRow.holds Try.pinned (OpenSpec.upto codeIntsSpec)

/-- 'trommellaw39.CodePuts', WHERE WHAT IT READS IS OF BULK AT MOST 1048576: true; the input reads as it did. -/
def codePutsUptoRow : OpenClaim := { program := "ythngafgblehpoaa", sum := "5f85fb0dc61c63c9d40a505eba5fecc7ba6d18909b7707fe454db4afc586b3c8", func := "trommel/trommellaw39.CodePuts", spec := "codePuts", apart := false, narrowed := true }
def CodePutsUptoSaid : Prop := codePutsUptoRow.holds Try.pinned (OpenSpec.upto codePutsSpec)

/-- 'trommellaw23.JtreeTells', WHERE WHAT IT READS IS OF BULK AT MOST 1048576: true; the input reads as it did. -/
def jtreeTellsUptoRow : OpenClaim := { program := "ythngafgblehpoaa", sum := "5f85fb0dc61c63c9d40a505eba5fecc7ba6d18909b7707fe454db4afc586b3c8", func := "trommel/trommellaw23.JtreeTells", spec := "jtreeTells", unfollowed := true, recurses := true, apart := false, narrowed := true }
def JtreeTellsUptoSaid : Prop := jtreeTellsUptoRow.holds Try.pinned (OpenSpec.upto jtreeTellsSpec)

/-- 'trommellaw33.ReadyBounds', WHERE WHAT IT READS IS OF BULK AT MOST 1048576: true; the input reads as it did. -/
def readyBoundsUptoRow : OpenClaim := { program := "ythngafgblehpoaa", sum := "5f85fb0dc61c63c9d40a505eba5fecc7ba6d18909b7707fe454db4afc586b3c8", func := "trommel/trommellaw33.ReadyBounds", spec := "readyBounds", unfollowed := true, recurses := true, loops := true, apart := false, narrowed := true }
def ReadyBoundsUptoSaid : Prop := readyBoundsUptoRow.holds Try.pinned (OpenSpec.upto readyBoundsSpec)

end Rows
end Go.Proofs.Ythngafgblehpoaa
