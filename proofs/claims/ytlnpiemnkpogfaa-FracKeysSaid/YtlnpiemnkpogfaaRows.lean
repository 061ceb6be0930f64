/-
  No cell of these rows narrows 'for every input' (looked for: loops, veiled, ifaces, maps, wideKeys, modest, calm, conditions, laid).
  DERIVED. THE GIVEN ROWS OF THIS SEAT. 12 by the template 'for every input the law returns true; each argument reads behind the call as it read before'; 0 by the template 'total and deterministic' (their statements: YtlnpiemnkpogfaaTotals.lean).
  GIVEN WITH THE SEED: the statements are not yours to turn. If you find one false, say at which input.
  Laid BY PROGRAM, IN A SANDBOX (cutbox-rows.mjs): the forced cells as the released guide's own fill.sh prints them over the translation c87390cb3a21b757… (all of the seat's roots in one cut). By AI agents, Wed Nov 11 2026. No macro, syntax, notation, axiom, sorry.
-/
import Derived.Test.YtlnpiemnkpogfaaChecked
import GoSem.Claim
import GoSem.ClaimJoined
import GoSem.ClaimMapViews
import Derived.JoinedTies
import Derived.KernelRfl
namespace Go.Proofs.Ytlnpiemnkpogfaa
/- THE CELL 'sum', in the pinned program and in every row, IS THE sha256 OF THE DUMP (.gsa) THAT YtlnpiemnkpogfaaProg.lean LOADS. Nothing in Lean hashes anything: it is a label: what it is worth is what the hold of that sum in a sandbox is worth. -/
noncomputable def Try.pinned : Pinned := { name := "ytlnpiemnkpogfaa", sum := "c87390cb3a21b757f5962f1e84ee3234dc8c1eada8a439b1d3d053c00c4bc8fe", checked := Try.checked }
namespace Rows
def none {H : Type} : Left H := { results := [], args := [] }

/-- 'trommellaw26.SatParts': WHATEVER THE INPUT: true; the input reads as it did. -/
def satPartsSpec : ChangeSpec := { name := "satParts", fn := fun _ => fun
  | [d1, d2, d3] => { results := [.lit (.bool true)], args := [d1, d2, d3] }
  | _ => none }
def satPartsRow : OpenClaim := { program := "ytlnpiemnkpogfaa", sum := "c87390cb3a21b757f5962f1e84ee3234dc8c1eada8a439b1d3d053c00c4bc8fe", func := "trommel/trommellaw26.SatParts", spec := "satParts", inPlace := ["math/bits.Add64"], unfollowed := true, recurses := true, named := ["math/bits.divideError", "math/bits.overflowError"], apart := false }
def SatPartsSaid : Prop := satPartsRow.holds Try.pinned (OpenSpec.ofChange satPartsSpec)

/-- ITS FALSE NEIGHBOUR: 'it returns false'. Refute it at one input. -/
def satPartsWrong : ChangeSpec := { name := "satParts", fn := fun _ => fun
  | [d1, d2, d3] => { results := [.lit (.bool false)], args := [d1, d2, d3] }
  | _ => none }
def SatPartsWrongFalsely : Prop := satPartsRow.holds Try.pinned (OpenSpec.ofChange satPartsWrong)

/-- 'trommellaw29.CostPasses': WHATEVER THE INPUT: true; the input reads as it did. -/
def costPassesSpec : ChangeSpec := { name := "costPasses", fn := fun _ => fun
  | [d1, d2, d3, d4] => { results := [.lit (.bool true)], args := [d1, d2, d3, d4] }
  | _ => none }
def costPassesRow : OpenClaim := { program := "ytlnpiemnkpogfaa", sum := "c87390cb3a21b757f5962f1e84ee3234dc8c1eada8a439b1d3d053c00c4bc8fe", func := "trommel/trommellaw29.CostPasses", spec := "costPasses", inPlace := ["math/bits.Add64"], unfollowed := true, recurses := true, named := ["math/bits.divideError", "math/bits.overflowError"], apart := false }
def CostPassesSaid : Prop := costPassesRow.holds Try.pinned (OpenSpec.ofChange costPassesSpec)

/-- ITS FALSE NEIGHBOUR: 'it returns false'. Refute it at one input. -/
def costPassesWrong : ChangeSpec := { name := "costPasses", fn := fun _ => fun
  | [d1, d2, d3, d4] => { results := [.lit (.bool false)], args := [d1, d2, d3, d4] }
  | _ => none }
def CostPassesWrongFalsely : Prop := costPassesRow.holds Try.pinned (OpenSpec.ofChange costPassesWrong)

/-- 'trommellaw29.CostGains': WHATEVER THE INPUT: true; the input reads as it did. -/
def costGainsSpec : ChangeSpec := { name := "costGains", fn := fun _ => fun
  | [d1, d2, d3] => { results := [.lit (.bool true)], args := [d1, d2, d3] }
  | _ => none }
def costGainsRow : OpenClaim := { program := "ytlnpiemnkpogfaa", sum := "c87390cb3a21b757f5962f1e84ee3234dc8c1eada8a439b1d3d053c00c4bc8fe", func := "trommel/trommellaw29.CostGains", spec := "costGains", inPlace := ["math/bits.Add64"], unfollowed := true, recurses := true, named := ["math/bits.divideError", "math/bits.overflowError"], apart := false }
def CostGainsSaid : Prop := costGainsRow.holds Try.pinned (OpenSpec.ofChange costGainsSpec)

/-- ITS FALSE NEIGHBOUR: 'it returns false'. Refute it at one input. -/
def costGainsWrong : ChangeSpec := { name := "costGains", fn := fun _ => fun
  | [d1, d2, d3] => { results := [.lit (.bool false)], args := [d1, d2, d3] }
  | _ => none }
def CostGainsWrongFalsely : Prop := costGainsRow.holds Try.pinned (OpenSpec.ofChange costGainsWrong)

/-- 'trommellaw28.FracCleans': WHATEVER THE INPUT: true; the input reads as it did. -/
def fracCleansSpec : ChangeSpec := { name := "fracCleans", fn := fun _ => fun
  | [d1, d2, d3] => { results := [.lit (.bool true)], args := [d1, d2, d3] }
  | _ => none }
def fracCleansRow : OpenClaim := { program := "ytlnpiemnkpogfaa", sum := "c87390cb3a21b757f5962f1e84ee3234dc8c1eada8a439b1d3d053c00c4bc8fe", func := "trommel/trommellaw28.FracCleans", spec := "fracCleans", inPlace := ["math.Float64bits", "math.archCeil", "math.archFloor", "math.Float64frombits", "math.archTrunc"], apart := false }
def FracCleansSaid : Prop := fracCleansRow.holds Try.pinned (OpenSpec.ofChange fracCleansSpec)

/-- ITS FALSE NEIGHBOUR: 'it returns false'. Refute it at one input. -/
def fracCleansWrong : ChangeSpec := { name := "fracCleans", fn := fun _ => fun
  | [d1, d2, d3] => { results := [.lit (.bool false)], args := [d1, d2, d3] }
  | _ => none }
def FracCleansWrongFalsely : Prop := fracCleansRow.holds Try.pinned (OpenSpec.ofChange fracCleansWrong)

/-- 'trommellaw28.FracParts': WHATEVER THE INPUT: true; the input reads as it did. -/
def fracPartsSpec : ChangeSpec := { name := "fracParts", fn := fun _ => fun
  | [d1, d2, d3] => { results := [.lit (.bool true)], args := [d1, d2, d3] }
  | _ => none }
def fracPartsRow : OpenClaim := { program := "ytlnpiemnkpogfaa", sum := "c87390cb3a21b757f5962f1e84ee3234dc8c1eada8a439b1d3d053c00c4bc8fe", func := "trommel/trommellaw28.FracParts", spec := "fracParts", inPlace := ["math.Float64bits", "math.archCeil", "math.archFloor", "math.Float64frombits", "math.archTrunc"], apart := false }
def FracPartsSaid : Prop := fracPartsRow.holds Try.pinned (OpenSpec.ofChange fracPartsSpec)

/-- ITS FALSE NEIGHBOUR: 'it returns false'. Refute it at one input. -/
def fracPartsWrong : ChangeSpec := { name := "fracParts", fn := fun _ => fun
  | [d1, d2, d3] => { results := [.lit (.bool false)], args := [d1, d2, d3] }
  | _ => none }
def FracPartsWrongFalsely : Prop := fracPartsRow.holds Try.pinned (OpenSpec.ofChange fracPartsWrong)

/-- 'trommellaw28.FracScales': WHATEVER THE INPUT: true; the input reads as it did. -/
def fracScalesSpec : ChangeSpec := { name := "fracScales", fn := fun _ => fun
  | [d1, d2, d3, d4] => { results := [.lit (.bool true)], args := [d1, d2, d3, d4] }
  | _ => none }
def fracScalesRow : OpenClaim := { program := "ytlnpiemnkpogfaa", sum := "c87390cb3a21b757f5962f1e84ee3234dc8c1eada8a439b1d3d053c00c4bc8fe", func := "trommel/trommellaw28.FracScales", spec := "fracScales", inPlace := ["math.archCeil", "math.archFloor", "math.Float64bits", "math.Float64frombits", "math.archTrunc"], apart := false }
def FracScalesSaid : Prop := fracScalesRow.holds Try.pinned (OpenSpec.ofChange fracScalesSpec)

/-- ITS FALSE NEIGHBOUR: 'it returns false'. Refute it at one input. -/
def fracScalesWrong : ChangeSpec := { name := "fracScales", fn := fun _ => fun
  | [d1, d2, d3, d4] => { results := [.lit (.bool false)], args := [d1, d2, d3, d4] }
  | _ => none }
def FracScalesWrongFalsely : Prop := fracScalesRow.holds Try.pinned (OpenSpec.ofChange fracScalesWrong)

/-- 'trommellaw28.FracKeys': WHATEVER THE INPUT: true; the input reads as it did. -/
def fracKeysSpec : ChangeSpec := { name := "fracKeys", fn := fun _ => fun
  | [d1, d2, d3] => { results := [.lit (.bool true)], args := [d1, d2, d3] }
  | _ => none }
def fracKeysRow : OpenClaim := { program := "ytlnpiemnkpogfaa", sum := "c87390cb3a21b757f5962f1e84ee3234dc8c1eada8a439b1d3d053c00c4bc8fe", func := "trommel/trommellaw28.FracKeys", spec := "fracKeys", inPlace := ["math.Float64bits", "math.archCeil", "math.archFloor", "math.Float64frombits", "math.archTrunc"], apart := false }
def FracKeysSaid : Prop := fracKeysRow.holds Try.pinned (OpenSpec.ofChange fracKeysSpec)

/-- ITS FALSE NEIGHBOUR: 'it returns false'. Refute it at one input. -/
def fracKeysWrong : ChangeSpec := { name := "fracKeys", fn := fun _ => fun
  | [d1, d2, d3] => { results := [.lit (.bool false)], args := [d1, d2, d3] }
  | _ => none }
def FracKeysWrongFalsely : Prop := fracKeysRow.holds Try.pinned (OpenSpec.ofChange fracKeysWrong)

/-- 'trommellaw06.UfJoins': WHATEVER THE INPUT: true; the input reads as it did. -/
def ufJoinsSpec : ChangeSpec := { name := "ufJoins", fn := fun _ => fun
  | [d1, d2, d3, d4] => { results := [.lit (.bool true)], args := [d1, d2, d3, d4] }
  | _ => none }
def ufJoinsRow : OpenClaim := { program := "ytlnpiemnkpogfaa", sum := "c87390cb3a21b757f5962f1e84ee3234dc8c1eada8a439b1d3d053c00c4bc8fe", func := "trommel/trommellaw06.UfJoins", spec := "ufJoins", apart := false }
def UfJoinsSaid : Prop := ufJoinsRow.holds Try.pinned (OpenSpec.ofChange ufJoinsSpec)

/-- ITS FALSE NEIGHBOUR: 'it returns false'. Refute it at one input. -/
def ufJoinsWrong : ChangeSpec := { name := "ufJoins", fn := fun _ => fun
  | [d1, d2, d3, d4] => { results := [.lit (.bool false)], args := [d1, d2, d3, d4] }
  | _ => none }
def UfJoinsWrongFalsely : Prop := ufJoinsRow.holds Try.pinned (OpenSpec.ofChange ufJoinsWrong)

/-- 'trommellaw06.UfAlls': WHATEVER THE INPUT: true; the input reads as it did. -/
def ufAllsSpec : ChangeSpec := { name := "ufAlls", fn := fun _ => fun
  | [d1, d2, d3] => { results := [.lit (.bool true)], args := [d1, d2, d3] }
  | _ => none }
def ufAllsRow : OpenClaim := { program := "ytlnpiemnkpogfaa", sum := "c87390cb3a21b757f5962f1e84ee3234dc8c1eada8a439b1d3d053c00c4bc8fe", func := "trommel/trommellaw06.UfAlls", spec := "ufAlls", apart := false }
def UfAllsSaid : Prop := ufAllsRow.holds Try.pinned (OpenSpec.ofChange ufAllsSpec)

/-- ITS FALSE NEIGHBOUR: 'it returns false'. Refute it at one input. -/
def ufAllsWrong : ChangeSpec := { name := "ufAlls", fn := fun _ => fun
  | [d1, d2, d3] => { results := [.lit (.bool false)], args := [d1, d2, d3] }
  | _ => none }
def UfAllsWrongFalsely : Prop := ufAllsRow.holds Try.pinned (OpenSpec.ofChange ufAllsWrong)

/-- 'trommellaw06.UfOrders': WHATEVER THE INPUT: true; the input reads as it did. -/
def ufOrdersSpec : ChangeSpec := { name := "ufOrders", fn := fun _ => fun
  | [d1, d2, d3, d4, d5] => { results := [.lit (.bool true)], args := [d1, d2, d3, d4, d5] }
  | _ => none }
def ufOrdersRow : OpenClaim := { program := "ytlnpiemnkpogfaa", sum := "c87390cb3a21b757f5962f1e84ee3234dc8c1eada8a439b1d3d053c00c4bc8fe", func := "trommel/trommellaw06.UfOrders", spec := "ufOrders", apart := false }
def UfOrdersSaid : Prop := ufOrdersRow.holds Try.pinned (OpenSpec.ofChange ufOrdersSpec)

/-- ITS FALSE NEIGHBOUR: 'it returns false'. Refute it at one input. -/
def ufOrdersWrong : ChangeSpec := { name := "ufOrders", fn := fun _ => fun
  | [d1, d2, d3, d4, d5] => { results := [.lit (.bool false)], args := [d1, d2, d3, d4, d5] }
  | _ => none }
def UfOrdersWrongFalsely : Prop := ufOrdersRow.holds Try.pinned (OpenSpec.ofChange ufOrdersWrong)

/-- 'trommellaw19.SpanTells': WHATEVER THE INPUT: true; the input reads as it did. -/
def spanTellsSpec : ChangeSpec := { name := "spanTells", fn := fun _ => fun
  | [d1, d2, d3] => { results := [.lit (.bool true)], args := [d1, d2, d3] }
  | _ => none }
def spanTellsRow : OpenClaim := { program := "ytlnpiemnkpogfaa", sum := "c87390cb3a21b757f5962f1e84ee3234dc8c1eada8a439b1d3d053c00c4bc8fe", func := "trommel/trommellaw19.SpanTells", spec := "spanTells", inPlace := ["internal/bytealg.abigen_runtime_cmpstring"], apart := false }
def SpanTellsSaid : Prop := spanTellsRow.holds Try.pinned (OpenSpec.ofChange spanTellsSpec)

/-- ITS FALSE NEIGHBOUR: 'it returns false'. Refute it at one input. -/
def spanTellsWrong : ChangeSpec := { name := "spanTells", fn := fun _ => fun
  | [d1, d2, d3] => { results := [.lit (.bool false)], args := [d1, d2, d3] }
  | _ => none }
def SpanTellsWrongFalsely : Prop := spanTellsRow.holds Try.pinned (OpenSpec.ofChange spanTellsWrong)

/-- 'trommellaw19.SpanKeeps': WHATEVER THE INPUT: true; the input reads as it did. -/
def spanKeepsSpec : ChangeSpec := { name := "spanKeeps", fn := fun _ => fun
  | [d1, d2] => { results := [.lit (.bool true)], args := [d1, d2] }
  | _ => none }
def spanKeepsRow : OpenClaim := { program := "ytlnpiemnkpogfaa", sum := "c87390cb3a21b757f5962f1e84ee3234dc8c1eada8a439b1d3d053c00c4bc8fe", func := "trommel/trommellaw19.SpanKeeps", spec := "spanKeeps", inPlace := ["internal/bytealg.abigen_runtime_cmpstring"], apart := false }
def SpanKeepsSaid : Prop := spanKeepsRow.holds Try.pinned (OpenSpec.ofChange spanKeepsSpec)

/-- ITS FALSE NEIGHBOUR: 'it returns false'. Refute it at one input. -/
def spanKeepsWrong : ChangeSpec := { name := "spanKeeps", fn := fun _ => fun
  | [d1, d2] => { results := [.lit (.bool false)], args := [d1, d2] }
  | _ => none }
def SpanKeepsWrongFalsely : Prop := spanKeepsRow.holds Try.pinned (OpenSpec.ofChange spanKeepsWrong)

/- THE SECOND FORM. 'bulk': how many values and letters a reading holds, each counted each time it is reached (what is shared counts as often as it is met; a slice's spare places count too). A statement '..UptoSaid' is the law's where the arguments, and the package variables that the reading takes, are together of bulk at most 1048576: NARROWER than '..Said'. Prove '..Said' where nothing that the law and all that it calls make is longer than what came in: it says more and counts as full. Else prove '..UptoSaid'. A law counts once. -/
mutual
def uptoBulk {H : Type} : DataW H → Nat
  | .lit (.string bytes) => bytes.length + 1
  | .lit _ => 1
  | .nil => 1
  | .ptr d => uptoBulk d + 1
  | .slice elems spare => uptoBulkAll elems + uptoBulkAll spare + 1
  | .agg parts => uptoBulkAll parts + 1
  | .iface _ d => uptoBulk d + 1
  | .map entries => uptoBulkEntries entries + 1
  | .held _ => 1
def uptoBulkAll {H : Type} : List (DataW H) → Nat
  | [] => 0
  | d :: r => uptoBulk d + uptoBulkAll r
def uptoBulkEntries {H : Type} : List (Lit × DataW H) → Nat
  | [] => 0
  | x :: r => uptoBulkEntry x + uptoBulkEntries r
def uptoBulkEntry {H : Type} : Lit × DataW H → Nat
  | (.string bytes, d) => bytes.length + uptoBulk d + 1
  | (_, d) => uptoBulk d + 1
 end
def uptoSmall : (H : Type) → List (DataW H) → Bool := fun _ ds => decide (uptoBulkAll ds ≤ 1048576)
def OpenSpec.upto (s : _root_.Go.ChangeSpec) : _root_.Go.OpenSpec := { _root_.Go.OpenSpec.ofChange s with cond := some uptoSmall }

/-- 'trommellaw26.SatParts', WHERE WHAT IT READS IS OF BULK AT MOST 1048576: true; the input reads as it did. -/
def satPartsUptoRow : OpenClaim := { program := "ytlnpiemnkpogfaa", sum := "c87390cb3a21b757f5962f1e84ee3234dc8c1eada8a439b1d3d053c00c4bc8fe", func := "trommel/trommellaw26.SatParts", spec := "satParts", inPlace := ["math/bits.Add64"], unfollowed := true, recurses := true, named := ["math/bits.divideError", "math/bits.overflowError"], apart := false, narrowed := true }
def SatPartsUptoSaid : Prop := satPartsUptoRow.holds Try.pinned (OpenSpec.upto satPartsSpec)

/-- 'trommellaw29.CostPasses', WHERE WHAT IT READS IS OF BULK AT MOST 1048576: true; the input reads as it did. -/
def costPassesUptoRow : OpenClaim := { program := "ytlnpiemnkpogfaa", sum := "c87390cb3a21b757f5962f1e84ee3234dc8c1eada8a439b1d3d053c00c4bc8fe", func := "trommel/trommellaw29.CostPasses", spec := "costPasses", inPlace := ["math/bits.Add64"], unfollowed := true, recurses := true, named := ["math/bits.divideError", "math/bits.overflowError"], apart := false, narrowed := true }
def CostPassesUptoSaid : Prop := costPassesUptoRow.holds Try.pinned (OpenSpec.upto costPassesSpec)

/-- 'trommellaw29.CostGains', WHERE WHAT IT READS IS OF BULK AT MOST 1048576: true; the input reads as it did. -/
def costGainsUptoRow : OpenClaim := { program := "ytlnpiemnkpogfaa", sum := "c87390cb3a21b757f5962f1e84ee3234dc8c1eada8a439b1d3d053c00c4bc8fe", func := "trommel/trommellaw29.CostGains", spec := "costGains", inPlace := ["math/bits.Add64"], unfollowed := true, recurses := true, named := ["math/bits.divideError", "math/bits.overflowError"], apart := false, narrowed := true }
def CostGainsUptoSaid : Prop := costGainsUptoRow.holds Try.pinned (OpenSpec.upto costGainsSpec)

/-- 'trommellaw28.FracCleans', WHERE WHAT IT READS IS OF BULK AT MOST 1048576: true; the input reads as it did. -/
def fracCleansUptoRow : OpenClaim := { program := "ytlnpiemnkpogfaa", sum := "c87390cb3a21b757f5962f1e84ee3234dc8c1eada8a439b1d3d053c00c4bc8fe", func := "trommel/trommellaw28.FracCleans", spec := "fracCleans", inPlace := ["math.Float64bits", "math.archCeil", "math.archFloor", "math.Float64frombits", "math.archTrunc"], apart := false, narrowed := true }
def FracCleansUptoSaid : Prop := fracCleansUptoRow.holds Try.pinned (OpenSpec.upto fracCleansSpec)

/-- 'trommellaw28.FracParts', WHERE WHAT IT READS IS OF BULK AT MOST 1048576: true; the input reads as it did. -/
def fracPartsUptoRow : OpenClaim := { program := "ytlnpiemnkpogfaa", sum := "c87390cb3a21b757f5962f1e84ee3234dc8c1eada8a439b1d3d053c00c4bc8fe", func := "trommel/trommellaw28.FracParts", spec := "fracParts", inPlace := ["math.Float64bits", "math.archCeil", "math.archFloor", "math.Float64frombits", "math.archTrunc"], apart := false, narrowed := true }
def FracPartsUptoSaid : Prop := fracPartsUptoRow.holds Try.pinned (OpenSpec.upto fracPartsSpec)

/-- 'trommellaw28.FracScales', WHERE WHAT IT READS IS OF BULK AT MOST 1048576: true; the input reads as it did. -/
def fracScalesUptoRow : OpenClaim := { program := "ytlnpiemnkpogfaa", sum := "c87390cb3a21b757f5962f1e84ee3234dc8c1eada8a439b1d3d053c00c4bc8fe", func := "trommel/trommellaw28.FracScales", spec := "fracScales", inPlace := ["math.archCeil", "math.archFloor", "math.Float64bits", "math.Float64frombits", "math.archTrunc"], apart := false, narrowed := true }
def FracScalesUptoSaid : Prop := fracScalesUptoRow.holds Try.pinned (OpenSpec.upto fracScalesSpec)

/-- 'trommellaw28.FracKeys', WHERE WHAT IT READS IS OF BULK AT MOST 1048576: true; the input reads as it did. -/
def fracKeysUptoRow : OpenClaim := { program := "ytlnpiemnkpogfaa", sum := "c87390cb3a21b757f5962f1e84ee3234dc8c1eada8a439b1d3d053c00c4bc8fe", func := "trommel/trommellaw28.FracKeys", spec := "fracKeys", inPlace := ["math.Float64bits", "math.archCeil", "math.archFloor", "math.Float64frombits", "math.archTrunc"], apart := false, narrowed := true }
def FracKeysUptoSaid : Prop := fracKeysUptoRow.holds Try.pinned (OpenSpec.upto fracKeysSpec)

/-- 'trommellaw06.UfJoins', WHERE WHAT IT READS IS OF BULK AT MOST 1048576: true; the input reads as it did. -/
def ufJoinsUptoRow : OpenClaim := { program := "ytlnpiemnkpogfaa", sum := "c87390cb3a21b757f5962f1e84ee3234dc8c1eada8a439b1d3d053c00c4bc8fe", func := "trommel/trommellaw06.UfJoins", spec := "ufJoins", apart := false, narrowed := true }
def UfJoinsUptoSaid : Prop := ufJoinsUptoRow.holds Try.pinned (OpenSpec.upto ufJoinsSpec)

/-- 'trommellaw06.UfAlls', WHERE WHAT IT READS IS OF BULK AT MOST 1048576: true; the input reads as it did. -/
def ufAllsUptoRow : OpenClaim := { program := "ytlnpiemnkpogfaa", sum := "c87390cb3a21b757f5962f1e84ee3234dc8c1eada8a439b1d3d053c00c4bc8fe", func := "trommel/trommellaw06.UfAlls", spec := "ufAlls", apart := false, narrowed := true }
def UfAllsUptoSaid : Prop := ufAllsUptoRow.holds Try.pinned (OpenSpec.upto ufAllsSpec)

/-- 'trommellaw06.UfOrders', WHERE WHAT IT READS IS OF BULK AT MOST 1048576: true; the input reads as it did. -/
def ufOrdersUptoRow : OpenClaim := { program := "ytlnpiemnkpogfaa", sum := "c87390cb3a21b757f5962f1e84ee3234dc8c1eada8a439b1d3d053c00c4bc8fe", func := "trommel/trommellaw06.UfOrders", spec := "ufOrders", apart := false, narrowed := true }
def UfOrdersUptoSaid : Prop := ufOrdersUptoRow.holds Try.pinned (OpenSpec.upto ufOrdersSpec)

/-- 'trommellaw19.SpanTells', WHERE WHAT IT READS IS OF BULK AT MOST 1048576: true; the input reads as it did. -/
def spanTellsUptoRow : OpenClaim := { program := "ytlnpiemnkpogfaa", sum := "c87390cb3a21b757f5962f1e84ee3234dc8c1eada8a439b1d3d053c00c4bc8fe", func := "trommel/trommellaw19.SpanTells", spec := "spanTells", inPlace := ["internal/bytealg.abigen_runtime_cmpstring"], apart := false, narrowed := true }
def SpanTellsUptoSaid : Prop := spanTellsUptoRow.holds Try.pinned (OpenSpec.upto spanTellsSpec)

/-- 'trommellaw19.SpanKeeps', WHERE WHAT IT READS IS OF BULK AT MOST 1048576: true; the input reads as it did. -/
def spanKeepsUptoRow : OpenClaim := { program := "ytlnpiemnkpogfaa", sum := "c87390cb3a21b757f5962f1e84ee3234dc8c1eada8a439b1d3d053c00c4bc8fe", func := "trommel/trommellaw19.SpanKeeps", spec := "spanKeeps", inPlace := ["internal/bytealg.abigen_runtime_cmpstring"], apart := false, narrowed := true }
def SpanKeepsUptoSaid : Prop := spanKeepsUptoRow.holds Try.pinned (OpenSpec.upto spanKeepsSpec)

end Rows
end Go.Proofs.Ytlnpiemnkpogfaa
