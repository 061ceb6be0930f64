/-
  No cell of these rows narrows 'for every input' (looked for: loops, veiled, ifaces, maps, wideKeys, modest, calm, conditions, laid).
  DERIVED. THE GIVEN ROWS OF THIS SEAT. 7 by the template 'for every input the law returns true; each argument reads behind the call as it read before'; 0 by the template 'total and deterministic' (their statements: YtjfhaeadcflhnaaTotals.lean).
  GIVEN WITH THE SEED: the statements are not yours to turn. If you find one false, say at which input.
  Laid BY PROGRAM, IN A SANDBOX (cutbox-rows.mjs): the forced cells as the released guide's own fill.sh prints them over the translation e261d5a7bb455ebc… (all of the seat's roots in one cut). By AI agents, Wed Nov 11 2026. No macro, syntax, notation, axiom, sorry.
-/
import Derived.Test.YtjfhaeadcflhnaaChecked
import GoSem.Claim
import GoSem.ClaimJoined
import GoSem.ClaimMapViews
import Derived.JoinedTies
import Derived.KernelRfl
namespace Go.Proofs.Ytjfhaeadcflhnaa
/- THE CELL 'sum', in the pinned program and in every row, IS THE sha256 OF THE DUMP (.gsa) THAT YtjfhaeadcflhnaaProg.lean LOADS. Nothing in Lean hashes anything: it is a label: what it is worth is what the hold of that sum in a sandbox is worth. -/
noncomputable def Try.pinned : Pinned := { name := "ytjfhaeadcflhnaa", sum := "e261d5a7bb455ebc7ef942e6c4d426c779bcfdb6bcf65a6c6fef6a84ab534f3a", checked := Try.checked }
namespace Rows
def none {H : Type} : Left H := { results := [], args := [] }

/-- 'trommellaw17.HashMixes': WHATEVER THE INPUT: true; the input reads as it did. -/
def hashMixesSpec : ChangeSpec := { name := "hashMixes", fn := fun _ => fun
  | [d1, d2, d3, d4] => { results := [.lit (.bool true)], args := [d1, d2, d3, d4] }
  | _ => none }
def hashMixesRow : OpenClaim := { program := "ytjfhaeadcflhnaa", sum := "e261d5a7bb455ebc7ef942e6c4d426c779bcfdb6bcf65a6c6fef6a84ab534f3a", func := "trommel/trommellaw17.HashMixes", spec := "hashMixes", apart := false }
def HashMixesSaid : Prop := hashMixesRow.holds Try.pinned (OpenSpec.ofChange hashMixesSpec)

/-- ITS FALSE NEIGHBOUR: 'it returns false'. Refute it at one input. -/
def hashMixesWrong : ChangeSpec := { name := "hashMixes", fn := fun _ => fun
  | [d1, d2, d3, d4] => { results := [.lit (.bool false)], args := [d1, d2, d3, d4] }
  | _ => none }
def HashMixesWrongFalsely : Prop := hashMixesRow.holds Try.pinned (OpenSpec.ofChange hashMixesWrong)

/-- 'trommellaw17.HashSames': WHATEVER THE INPUT: true; the input reads as it did. -/
def hashSamesSpec : ChangeSpec := { name := "hashSames", fn := fun _ => fun
  | [d1, d2, d3] => { results := [.lit (.bool true)], args := [d1, d2, d3] }
  | _ => none }
def hashSamesRow : OpenClaim := { program := "ytjfhaeadcflhnaa", sum := "e261d5a7bb455ebc7ef942e6c4d426c779bcfdb6bcf65a6c6fef6a84ab534f3a", func := "trommel/trommellaw17.HashSames", spec := "hashSames", apart := false }
def HashSamesSaid : Prop := hashSamesRow.holds Try.pinned (OpenSpec.ofChange hashSamesSpec)

/-- ITS FALSE NEIGHBOUR: 'it returns false'. Refute it at one input. -/
def hashSamesWrong : ChangeSpec := { name := "hashSames", fn := fun _ => fun
  | [d1, d2, d3] => { results := [.lit (.bool false)], args := [d1, d2, d3] }
  | _ => none }
def HashSamesWrongFalsely : Prop := hashSamesRow.holds Try.pinned (OpenSpec.ofChange hashSamesWrong)

/-- 'trommellaw26.SatSums': WHATEVER THE INPUT: true; the input reads as it did. -/
def satSumsSpec : ChangeSpec := { name := "satSums", fn := fun _ => fun
  | [d1, d2] => { results := [.lit (.bool true)], args := [d1, d2] }
  | _ => none }
def satSumsRow : OpenClaim := { program := "ytjfhaeadcflhnaa", sum := "e261d5a7bb455ebc7ef942e6c4d426c779bcfdb6bcf65a6c6fef6a84ab534f3a", func := "trommel/trommellaw26.SatSums", spec := "satSums", inPlace := ["math/bits.Add64"], unfollowed := true, recurses := true, named := ["math/bits.divideError", "math/bits.overflowError"], apart := false }
def SatSumsSaid : Prop := satSumsRow.holds Try.pinned (OpenSpec.ofChange satSumsSpec)

/-- ITS FALSE NEIGHBOUR: 'it returns false'. Refute it at one input. -/
def satSumsWrong : ChangeSpec := { name := "satSums", fn := fun _ => fun
  | [d1, d2] => { results := [.lit (.bool false)], args := [d1, d2] }
  | _ => none }
def SatSumsWrongFalsely : Prop := satSumsRow.holds Try.pinned (OpenSpec.ofChange satSumsWrong)

/-- 'trommellaw26.SatParts': WHATEVER THE INPUT: true; the input reads as it did. -/
def satPartsSpec : ChangeSpec := { name := "satParts", fn := fun _ => fun
  | [d1, d2, d3] => { results := [.lit (.bool true)], args := [d1, d2, d3] }
  | _ => none }
def satPartsRow : OpenClaim := { program := "ytjfhaeadcflhnaa", sum := "e261d5a7bb455ebc7ef942e6c4d426c779bcfdb6bcf65a6c6fef6a84ab534f3a", func := "trommel/trommellaw26.SatParts", spec := "satParts", inPlace := ["math/bits.Add64"], unfollowed := true, recurses := true, named := ["math/bits.divideError", "math/bits.overflowError"], apart := false }
def SatPartsSaid : Prop := satPartsRow.holds Try.pinned (OpenSpec.ofChange satPartsSpec)

/-- ITS FALSE NEIGHBOUR: 'it returns false'. Refute it at one input. -/
def satPartsWrong : ChangeSpec := { name := "satParts", fn := fun _ => fun
  | [d1, d2, d3] => { results := [.lit (.bool false)], args := [d1, d2, d3] }
  | _ => none }
def SatPartsWrongFalsely : Prop := satPartsRow.holds Try.pinned (OpenSpec.ofChange satPartsWrong)

/-- 'trommellaw26.SatOrders': WHATEVER THE INPUT: true; the input reads as it did. -/
def satOrdersSpec : ChangeSpec := { name := "satOrders", fn := fun _ => fun
  | [d1, d2, d3, d4] => { results := [.lit (.bool true)], args := [d1, d2, d3, d4] }
  | _ => none }
def satOrdersRow : OpenClaim := { program := "ytjfhaeadcflhnaa", sum := "e261d5a7bb455ebc7ef942e6c4d426c779bcfdb6bcf65a6c6fef6a84ab534f3a", func := "trommel/trommellaw26.SatOrders", spec := "satOrders", inPlace := ["math/bits.Add64"], unfollowed := true, recurses := true, named := ["math/bits.divideError", "math/bits.overflowError"], apart := false }
def SatOrdersSaid : Prop := satOrdersRow.holds Try.pinned (OpenSpec.ofChange satOrdersSpec)

/-- ITS FALSE NEIGHBOUR: 'it returns false'. Refute it at one input. -/
def satOrdersWrong : ChangeSpec := { name := "satOrders", fn := fun _ => fun
  | [d1, d2, d3, d4] => { results := [.lit (.bool false)], args := [d1, d2, d3, d4] }
  | _ => none }
def SatOrdersWrongFalsely : Prop := satOrdersRow.holds Try.pinned (OpenSpec.ofChange satOrdersWrong)

/-- 'trommellaw29.CostPasses': WHATEVER THE INPUT: true; the input reads as it did. -/
def costPassesSpec : ChangeSpec := { name := "costPasses", fn := fun _ => fun
  | [d1, d2, d3, d4] => { results := [.lit (.bool true)], args := [d1, d2, d3, d4] }
  | _ => none }
def costPassesRow : OpenClaim := { program := "ytjfhaeadcflhnaa", sum := "e261d5a7bb455ebc7ef942e6c4d426c779bcfdb6bcf65a6c6fef6a84ab534f3a", func := "trommel/trommellaw29.CostPasses", spec := "costPasses", inPlace := ["math/bits.Add64"], unfollowed := true, recurses := true, named := ["math/bits.divideError", "math/bits.overflowError"], apart := false }
def CostPassesSaid : Prop := costPassesRow.holds Try.pinned (OpenSpec.ofChange costPassesSpec)

/-- ITS FALSE NEIGHBOUR: 'it returns false'. Refute it at one input. -/
def costPassesWrong : ChangeSpec := { name := "costPasses", fn := fun _ => fun
  | [d1, d2, d3, d4] => { results := [.lit (.bool false)], args := [d1, d2, d3, d4] }
  | _ => none }
def CostPassesWrongFalsely : Prop := costPassesRow.holds Try.pinned (OpenSpec.ofChange costPassesWrong)

/-- 'trommellaw29.CostGains': WHATEVER THE INPUT: true; the input reads as it did. -/
def costGainsSpec : ChangeSpec := { name := "costGains", fn := fun _ => fun
  | [d1, d2, d3] => { results := [.lit (.bool true)], args := [d1, d2, d3] }
  | _ => none }
def costGainsRow : OpenClaim := { program := "ytjfhaeadcflhnaa", sum := "e261d5a7bb455ebc7ef942e6c4d426c779bcfdb6bcf65a6c6fef6a84ab534f3a", func := "trommel/trommellaw29.CostGains", spec := "costGains", inPlace := ["math/bits.Add64"], unfollowed := true, recurses := true, named := ["math/bits.divideError", "math/bits.overflowError"], apart := false }
def CostGainsSaid : Prop := costGainsRow.holds Try.pinned (OpenSpec.ofChange costGainsSpec)

/-- ITS FALSE NEIGHBOUR: 'it returns false'. Refute it at one input. -/
def costGainsWrong : ChangeSpec := { name := "costGains", fn := fun _ => fun
  | [d1, d2, d3] => { results := [.lit (.bool false)], args := [d1, d2, d3] }
  | _ => none }
def CostGainsWrongFalsely : Prop := costGainsRow.holds Try.pinned (OpenSpec.ofChange costGainsWrong)

/- THE SECOND FORM. 'bulk': how many values and letters a reading holds, each counted each time it is reached (what is shared counts as often as it is met; a slice's spare places count too). A statement '..UptoSaid' is the law's where the arguments, and the package variables that the reading takes, are together of bulk at most 1048576: NARROWER than '..Said'. Prove '..Said' where nothing that the law and all that it calls make is longer than what came in: it says more and counts as full. Else prove '..UptoSaid'. A law counts once. -/
mutual
def uptoBulk {H : Type} : DataW H → Nat
  | .lit (.string bytes) => bytes.length + 1
  | .lit _ => 1
  | .nil => 1
  | .ptr d => uptoBulk d + 1
  | .slice elems spare => uptoBulkAll elems + uptoBulkAll spare + 1
  | .agg parts => uptoBulkAll parts + 1
  | .iface _ d => uptoBulk d + 1
  | .map entries => uptoBulkEntries entries + 1
  | .held _ => 1
def uptoBulkAll {H : Type} : List (DataW H) → Nat
  | [] => 0
  | d :: r => uptoBulk d + uptoBulkAll r
def uptoBulkEntries {H : Type} : List (Lit × DataW H) → Nat
  | [] => 0
  | x :: r => uptoBulkEntry x + uptoBulkEntries r
def uptoBulkEntry {H : Type} : Lit × DataW H → Nat
  | (.string bytes, d) => bytes.length + uptoBulk d + 1
  | (_, d) => uptoBulk d + 1
 end
def uptoSmall : (H : Type) → List (DataW H) → Bool := fun _ ds => decide (uptoBulkAll ds ≤ 1048576)
def OpenSpec.upto (s : _root_.Go.ChangeSpec) : _root_.Go.OpenSpec := { _root_.Go.OpenSpec.ofChange s with cond := some uptoSmall }

/-- 'trommellaw17.HashMixes', WHERE WHAT IT READS IS OF BULK AT MOST 1048576: true; the input reads as it did. -/
def hashMixesUptoRow : OpenClaim := { program := "ytjfhaeadcflhnaa", sum := "e261d5a7bb455ebc7ef942e6c4d426c779bcfdb6bcf65a6c6fef6a84ab534f3a", func := "trommel/trommellaw17.HashMixes", spec := "hashMixes", apart := false, narrowed := true }
def HashMixesUptoSaid : Prop := hashMixesUptoRow.holds Try.pinned (OpenSpec.upto hashMixesSpec)

/-- 'trommellaw17.HashSames', WHERE WHAT IT READS IS OF BULK AT MOST 1048576: true; the input reads as it did. -/
def hashSamesUptoRow : OpenClaim := { program := "ytjfhaeadcflhnaa", sum := "e261d5a7bb455ebc7ef942e6c4d426c779bcfdb6bcf65a6c6fef6a84ab534f3a", func := "trommel/trommellaw17.HashSames", spec := "hashSames", apart := false, narrowed := true }
def HashSamesUptoSaid : Prop := hashSamesUptoRow.holds Try.pinned (OpenSpec.upto hashSamesSpec)

/-- 'trommellaw26.SatSums', WHERE WHAT IT READS IS OF BULK AT MOST 1048576: true; the input reads as it did. -/
def satSumsUptoRow : OpenClaim := { program := "ytjfhaeadcflhnaa", sum := "e261d5a7bb455ebc7ef942e6c4d426c779bcfdb6bcf65a6c6fef6a84ab534f3a", func := "trommel/trommellaw26.SatSums", spec := "satSums", inPlace := ["math/bits.Add64"], unfollowed := true, recurses := true, named := ["math/bits.divideError", "math/bits.overflowError"], apart := false, narrowed := true }
def SatSumsUptoSaid : Prop := satSumsUptoRow.holds Try.pinned (OpenSpec.upto satSumsSpec)

/-- 'trommellaw26.SatParts', WHERE WHAT IT READS IS OF BULK AT MOST 1048576: true; the input reads as it did. -/
def satPartsUptoRow : OpenClaim := { program := "ytjfhaeadcflhnaa", sum := "e261d5a7bb455ebc7ef942e6c4d426c779bcfdb6bcf65a6c6fef6a84ab534f3a", func := "trommel/trommellaw26.SatParts", spec := "satParts", inPlace := ["math/bits.Add64"], unfollowed := true, recurses := true, named := ["math/bits.divideError", "math/bits.overflowError"], apart := false, narrowed := true }
def SatPartsUptoSaid : Prop := satPartsUptoRow.holds Try.pinned (OpenSpec.upto satPartsSpec)

/-- 'trommellaw26.SatOrders', WHERE WHAT IT READS IS OF BULK AT MOST 1048576: true; the input reads as it did. -/
def satOrdersUptoRow : OpenClaim := { program := "ytjfhaeadcflhnaa", sum := "e261d5a7bb455ebc7ef942e6c4d426c779bcfdb6bcf65a6c6fef6a84ab534f3a", func := "trommel/trommellaw26.SatOrders", spec := "satOrders", inPlace := ["math/bits.Add64"], unfollowed := true, recurses := true, named := ["math/bits.divideError", "math/bits.overflowError"], apart := false, narrowed := true }
def SatOrdersUptoSaid : Prop := satOrdersUptoRow.holds Try.pinned (OpenSpec.upto satOrdersSpec)

/-- 'trommellaw29.CostPasses', WHERE WHAT IT READS IS OF BULK AT MOST 1048576: true; the input reads as it did. -/
def costPassesUptoRow : OpenClaim := { program := "ytjfhaeadcflhnaa", sum := "e261d5a7bb455ebc7ef942e6c4d426c779bcfdb6bcf65a6c6fef6a84ab534f3a", func := "trommel/trommellaw29.CostPasses", spec := "costPasses", inPlace := ["math/bits.Add64"], unfollowed := true, recurses := true, named := ["math/bits.divideError", "math/bits.overflowError"], apart := false, narrowed := true }
def CostPassesUptoSaid : Prop := costPassesUptoRow.holds Try.pinned (OpenSpec.upto costPassesSpec)

/-- 'trommellaw29.CostGains', WHERE WHAT IT READS IS OF BULK AT MOST 1048576: true; the input reads as it did. -/
def costGainsUptoRow : OpenClaim := { program := "ytjfhaeadcflhnaa", sum := "e261d5a7bb455ebc7ef942e6c4d426c779bcfdb6bcf65a6c6fef6a84ab534f3a", func := "trommel/trommellaw29.CostGains", spec := "costGains", inPlace := ["math/bits.Add64"], unfollowed := true, recurses := true, named := ["math/bits.divideError", "math/bits.overflowError"], apart := false, narrowed := true }
def CostGainsUptoSaid : Prop := costGainsUptoRow.holds Try.pinned (OpenSpec.upto costGainsSpec)

end Rows
end Go.Proofs.Ytjfhaeadcflhnaa
