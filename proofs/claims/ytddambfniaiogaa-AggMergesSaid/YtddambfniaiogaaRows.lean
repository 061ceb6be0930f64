/-
  NARROWER THAN 'FOR EVERY INPUT', by the rows' own cells (each row's printed sentence says how): EvalVals: loops · EvalTruths: loops · EvalHangs: loops · AggGroups: loops · NameExprs: loops · NameTwice: loops · NameResolves: loops · KindRight: loops · NormOfs: loops · NormClasses: loops.
  DERIVED. THE GIVEN ROWS OF THIS SEAT. 12 by the template 'for every input the law returns true; each argument reads behind the call as it read before'; 0 by the template 'total and deterministic' (their statements: YtddambfniaiogaaTotals.lean).
  GIVEN WITH THE SEED: the statements are not yours to turn. If you find one false, say at which input.
  Laid BY PROGRAM, IN A SANDBOX (cutbox-rows.mjs): the forced cells as the released guide's own fill.sh prints them over the translation ad9c54f40ddc5bc7… (all of the seat's roots in one cut). By AI agents, Wed Nov 11 2026. No macro, syntax, notation, axiom, sorry.
-/
import Derived.Test.YtddambfniaiogaaChecked
import GoSem.Claim
import GoSem.ClaimJoined
import GoSem.ClaimMapViews
import Derived.JoinedTies
import Derived.KernelRfl
namespace Go.Proofs.Ytddambfniaiogaa
/- THE CELL 'sum', in the pinned program and in every row, IS THE sha256 OF THE DUMP (.gsa) THAT YtddambfniaiogaaProg.lean LOADS. Nothing in Lean hashes anything: it is a label: what it is worth is what the hold of that sum in a sandbox is worth. -/
noncomputable def Try.pinned : Pinned := { name := "ytddambfniaiogaa", sum := "ad9c54f40ddc5bc75437d7fa89631e5a1a87610294cd49a86c29d408fdcae3d2", checked := Try.checked }
namespace Rows
def none {H : Type} : Left H := { results := [], args := [] }

/-- 'trommellaw13.EvalVals': WHATEVER THE INPUT: true; the input reads as it did. -/
def evalValsSpec : ChangeSpec := { name := "evalVals", fn := fun _ => fun
  | [d1, d2, d3, d4] => { results := [.lit (.bool true)], args := [d1, d2, d3, d4] }
  | _ => none }
def evalValsRow : OpenClaim := { program := "ytddambfniaiogaa", sum := "ad9c54f40ddc5bc75437d7fa89631e5a1a87610294cd49a86c29d408fdcae3d2", func := "trommel/trommellaw13.EvalVals", spec := "evalVals", inPlace := ["math/bits.Add64", "math/bits.Sub64", "internal/bytealg.abigen_runtime_cmpstring"], unfollowed := true, recurses := true, loops := true, plainKeys := false, apart := false }
def EvalValsSaid : Prop := evalValsRow.holds Try.pinned (OpenSpec.ofChange evalValsSpec)

/-- ITS FALSE NEIGHBOUR: 'it returns false'. Refute it at one input. -/
def evalValsWrong : ChangeSpec := { name := "evalVals", fn := fun _ => fun
  | [d1, d2, d3, d4] => { results := [.lit (.bool false)], args := [d1, d2, d3, d4] }
  | _ => none }
def EvalValsWrongFalsely : Prop := evalValsRow.holds Try.pinned (OpenSpec.ofChange evalValsWrong)

/-- 'trommellaw13.EvalTruths': WHATEVER THE INPUT: true; the input reads as it did. -/
def evalTruthsSpec : ChangeSpec := { name := "evalTruths", fn := fun _ => fun
  | [d1, d2, d3] => { results := [.lit (.bool true)], args := [d1, d2, d3] }
  | _ => none }
def evalTruthsRow : OpenClaim := { program := "ytddambfniaiogaa", sum := "ad9c54f40ddc5bc75437d7fa89631e5a1a87610294cd49a86c29d408fdcae3d2", func := "trommel/trommellaw13.EvalTruths", spec := "evalTruths", inPlace := ["math/bits.Add64", "math/bits.Sub64", "internal/bytealg.abigen_runtime_cmpstring"], unfollowed := true, recurses := true, loops := true, plainKeys := false, apart := false }
def EvalTruthsSaid : Prop := evalTruthsRow.holds Try.pinned (OpenSpec.ofChange evalTruthsSpec)

/-- ITS FALSE NEIGHBOUR: 'it returns false'. Refute it at one input. -/
def evalTruthsWrong : ChangeSpec := { name := "evalTruths", fn := fun _ => fun
  | [d1, d2, d3] => { results := [.lit (.bool false)], args := [d1, d2, d3] }
  | _ => none }
def EvalTruthsWrongFalsely : Prop := evalTruthsRow.holds Try.pinned (OpenSpec.ofChange evalTruthsWrong)

/-- 'trommellaw13.EvalHangs': WHATEVER THE INPUT: true; the input reads as it did. -/
def evalHangsSpec : ChangeSpec := { name := "evalHangs", fn := fun _ => fun
  | [d1, d2, d3, d4] => { results := [.lit (.bool true)], args := [d1, d2, d3, d4] }
  | _ => none }
def evalHangsRow : OpenClaim := { program := "ytddambfniaiogaa", sum := "ad9c54f40ddc5bc75437d7fa89631e5a1a87610294cd49a86c29d408fdcae3d2", func := "trommel/trommellaw13.EvalHangs", spec := "evalHangs", inPlace := ["math/bits.Add64", "math/bits.Sub64", "internal/bytealg.abigen_runtime_cmpstring"], unfollowed := true, recurses := true, loops := true, plainKeys := false, apart := false }
def EvalHangsSaid : Prop := evalHangsRow.holds Try.pinned (OpenSpec.ofChange evalHangsSpec)

/-- ITS FALSE NEIGHBOUR: 'it returns false'. Refute it at one input. -/
def evalHangsWrong : ChangeSpec := { name := "evalHangs", fn := fun _ => fun
  | [d1, d2, d3, d4] => { results := [.lit (.bool false)], args := [d1, d2, d3, d4] }
  | _ => none }
def EvalHangsWrongFalsely : Prop := evalHangsRow.holds Try.pinned (OpenSpec.ofChange evalHangsWrong)

/-- 'trommellaw14.AggOfs': WHATEVER THE INPUT: true; the input reads as it did. -/
def aggOfsSpec : ChangeSpec := { name := "aggOfs", fn := fun _ => fun
  | [d1, d2] => { results := [.lit (.bool true)], args := [d1, d2] }
  | _ => none }
def aggOfsRow : OpenClaim := { program := "ytddambfniaiogaa", sum := "ad9c54f40ddc5bc75437d7fa89631e5a1a87610294cd49a86c29d408fdcae3d2", func := "trommel/trommellaw14.AggOfs", spec := "aggOfs", inPlace := ["math/bits.Add64", "internal/bytealg.abigen_runtime_cmpstring"], unfollowed := true, recurses := true, plainKeys := false, apart := false }
def AggOfsSaid : Prop := aggOfsRow.holds Try.pinned (OpenSpec.ofChange aggOfsSpec)

/-- ITS FALSE NEIGHBOUR: 'it returns false'. Refute it at one input. -/
def aggOfsWrong : ChangeSpec := { name := "aggOfs", fn := fun _ => fun
  | [d1, d2] => { results := [.lit (.bool false)], args := [d1, d2] }
  | _ => none }
def AggOfsWrongFalsely : Prop := aggOfsRow.holds Try.pinned (OpenSpec.ofChange aggOfsWrong)

/-- 'trommellaw14.AggMerges': WHATEVER THE INPUT: true; the input reads as it did. -/
def aggMergesSpec : ChangeSpec := { name := "aggMerges", fn := fun _ => fun
  | [d1, d2, d3, d4] => { results := [.lit (.bool true)], args := [d1, d2, d3, d4] }
  | _ => none }
def aggMergesRow : OpenClaim := { program := "ytddambfniaiogaa", sum := "ad9c54f40ddc5bc75437d7fa89631e5a1a87610294cd49a86c29d408fdcae3d2", func := "trommel/trommellaw14.AggMerges", spec := "aggMerges", inPlace := ["math/bits.Add64", "internal/bytealg.abigen_runtime_cmpstring"], unfollowed := true, recurses := true, plainKeys := false, apart := false }
def AggMergesSaid : Prop := aggMergesRow.holds Try.pinned (OpenSpec.ofChange aggMergesSpec)

/-- ITS FALSE NEIGHBOUR: 'it returns false'. Refute it at one input. -/
def aggMergesWrong : ChangeSpec := { name := "aggMerges", fn := fun _ => fun
  | [d1, d2, d3, d4] => { results := [.lit (.bool false)], args := [d1, d2, d3, d4] }
  | _ => none }
def AggMergesWrongFalsely : Prop := aggMergesRow.holds Try.pinned (OpenSpec.ofChange aggMergesWrong)

/-- 'trommellaw14.AggGroups': WHATEVER THE INPUT: true; the input reads as it did. -/
def aggGroupsSpec : ChangeSpec := { name := "aggGroups", fn := fun _ => fun
  | [d1, d2, d3] => { results := [.lit (.bool true)], args := [d1, d2, d3] }
  | _ => none }
def aggGroupsRow : OpenClaim := { program := "ytddambfniaiogaa", sum := "ad9c54f40ddc5bc75437d7fa89631e5a1a87610294cd49a86c29d408fdcae3d2", func := "trommel/trommellaw14.AggGroups", spec := "aggGroups", inPlace := ["math/bits.Add64", "internal/bytealg.abigen_runtime_cmpstring"], unfollowed := true, recurses := true, loops := true, plainKeys := false, apart := false }
def AggGroupsSaid : Prop := aggGroupsRow.holds Try.pinned (OpenSpec.ofChange aggGroupsSpec)

/-- ITS FALSE NEIGHBOUR: 'it returns false'. Refute it at one input. -/
def aggGroupsWrong : ChangeSpec := { name := "aggGroups", fn := fun _ => fun
  | [d1, d2, d3] => { results := [.lit (.bool false)], args := [d1, d2, d3] }
  | _ => none }
def AggGroupsWrongFalsely : Prop := aggGroupsRow.holds Try.pinned (OpenSpec.ofChange aggGroupsWrong)

/-- 'trommellaw11.NameExprs': WHATEVER THE INPUT: true; the input reads as it did. -/
def nameExprsSpec : ChangeSpec := { name := "nameExprs", fn := fun _ => fun
  | [d1, d2, d3, d4, d5] => { results := [.lit (.bool true)], args := [d1, d2, d3, d4, d5] }
  | _ => none }
def nameExprsRow : OpenClaim := { program := "ytddambfniaiogaa", sum := "ad9c54f40ddc5bc75437d7fa89631e5a1a87610294cd49a86c29d408fdcae3d2", func := "trommel/trommellaw11.NameExprs", spec := "nameExprs", unfollowed := true, recurses := true, loops := true, plainKeys := false, apart := false }
def NameExprsSaid : Prop := nameExprsRow.holds Try.pinned (OpenSpec.ofChange nameExprsSpec)

/-- ITS FALSE NEIGHBOUR: 'it returns false'. Refute it at one input. -/
def nameExprsWrong : ChangeSpec := { name := "nameExprs", fn := fun _ => fun
  | [d1, d2, d3, d4, d5] => { results := [.lit (.bool false)], args := [d1, d2, d3, d4, d5] }
  | _ => none }
def NameExprsWrongFalsely : Prop := nameExprsRow.holds Try.pinned (OpenSpec.ofChange nameExprsWrong)

/-- 'trommellaw11.NameTwice': WHATEVER THE INPUT: true; the input reads as it did. -/
def nameTwiceSpec : ChangeSpec := { name := "nameTwice", fn := fun _ => fun
  | [d1, d2] => { results := [.lit (.bool true)], args := [d1, d2] }
  | _ => none }
def nameTwiceRow : OpenClaim := { program := "ytddambfniaiogaa", sum := "ad9c54f40ddc5bc75437d7fa89631e5a1a87610294cd49a86c29d408fdcae3d2", func := "trommel/trommellaw11.NameTwice", spec := "nameTwice", unfollowed := true, recurses := true, loops := true, plainKeys := false, apart := false }
def NameTwiceSaid : Prop := nameTwiceRow.holds Try.pinned (OpenSpec.ofChange nameTwiceSpec)

/-- ITS FALSE NEIGHBOUR: 'it returns false'. Refute it at one input. -/
def nameTwiceWrong : ChangeSpec := { name := "nameTwice", fn := fun _ => fun
  | [d1, d2] => { results := [.lit (.bool false)], args := [d1, d2] }
  | _ => none }
def NameTwiceWrongFalsely : Prop := nameTwiceRow.holds Try.pinned (OpenSpec.ofChange nameTwiceWrong)

/-- 'trommellaw11.NameResolves': WHATEVER THE INPUT: true; the input reads as it did. -/
def nameResolvesSpec : ChangeSpec := { name := "nameResolves", fn := fun _ => fun
  | [d1, d2] => { results := [.lit (.bool true)], args := [d1, d2] }
  | _ => none }
def nameResolvesRow : OpenClaim := { program := "ytddambfniaiogaa", sum := "ad9c54f40ddc5bc75437d7fa89631e5a1a87610294cd49a86c29d408fdcae3d2", func := "trommel/trommellaw11.NameResolves", spec := "nameResolves", unfollowed := true, recurses := true, loops := true, plainKeys := false, apart := false }
def NameResolvesSaid : Prop := nameResolvesRow.holds Try.pinned (OpenSpec.ofChange nameResolvesSpec)

/-- ITS FALSE NEIGHBOUR: 'it returns false'. Refute it at one input. -/
def nameResolvesWrong : ChangeSpec := { name := "nameResolves", fn := fun _ => fun
  | [d1, d2] => { results := [.lit (.bool false)], args := [d1, d2] }
  | _ => none }
def NameResolvesWrongFalsely : Prop := nameResolvesRow.holds Try.pinned (OpenSpec.ofChange nameResolvesWrong)

/-- 'trommellaw12.KindRight': WHATEVER THE INPUT: true; the input reads as it did. -/
def kindRightSpec : ChangeSpec := { name := "kindRight", fn := fun _ => fun
  | [d1, d2] => { results := [.lit (.bool true)], args := [d1, d2] }
  | _ => none }
def kindRightRow : OpenClaim := { program := "ytddambfniaiogaa", sum := "ad9c54f40ddc5bc75437d7fa89631e5a1a87610294cd49a86c29d408fdcae3d2", func := "trommel/trommellaw12.KindRight", spec := "kindRight", unfollowed := true, recurses := true, loops := true, plainKeys := false, apart := false }
def KindRightSaid : Prop := kindRightRow.holds Try.pinned (OpenSpec.ofChange kindRightSpec)

/-- ITS FALSE NEIGHBOUR: 'it returns false'. Refute it at one input. -/
def kindRightWrong : ChangeSpec := { name := "kindRight", fn := fun _ => fun
  | [d1, d2] => { results := [.lit (.bool false)], args := [d1, d2] }
  | _ => none }
def KindRightWrongFalsely : Prop := kindRightRow.holds Try.pinned (OpenSpec.ofChange kindRightWrong)

/-- 'trommellaw16.NormOfs': WHATEVER THE INPUT: true; the input reads as it did. -/
def normOfsSpec : ChangeSpec := { name := "normOfs", fn := fun _ => fun
  | [d1, d2] => { results := [.lit (.bool true)], args := [d1, d2] }
  | _ => none }
def normOfsRow : OpenClaim := { program := "ytddambfniaiogaa", sum := "ad9c54f40ddc5bc75437d7fa89631e5a1a87610294cd49a86c29d408fdcae3d2", func := "trommel/trommellaw16.NormOfs", spec := "normOfs", unfollowed := true, recurses := true, loops := true, plainKeys := false, apart := false }
def NormOfsSaid : Prop := normOfsRow.holds Try.pinned (OpenSpec.ofChange normOfsSpec)

/-- ITS FALSE NEIGHBOUR: 'it returns false'. Refute it at one input. -/
def normOfsWrong : ChangeSpec := { name := "normOfs", fn := fun _ => fun
  | [d1, d2] => { results := [.lit (.bool false)], args := [d1, d2] }
  | _ => none }
def NormOfsWrongFalsely : Prop := normOfsRow.holds Try.pinned (OpenSpec.ofChange normOfsWrong)

/-- 'trommellaw16.NormClasses': WHATEVER THE INPUT: true; the input reads as it did. -/
def normClassesSpec : ChangeSpec := { name := "normClasses", fn := fun _ => fun
  | [d1, d2, d3, d4, d5] => { results := [.lit (.bool true)], args := [d1, d2, d3, d4, d5] }
  | _ => none }
def normClassesRow : OpenClaim := { program := "ytddambfniaiogaa", sum := "ad9c54f40ddc5bc75437d7fa89631e5a1a87610294cd49a86c29d408fdcae3d2", func := "trommel/trommellaw16.NormClasses", spec := "normClasses", unfollowed := true, recurses := true, loops := true, plainKeys := false, apart := false }
def NormClassesSaid : Prop := normClassesRow.holds Try.pinned (OpenSpec.ofChange normClassesSpec)

/-- ITS FALSE NEIGHBOUR: 'it returns false'. Refute it at one input. -/
def normClassesWrong : ChangeSpec := { name := "normClasses", fn := fun _ => fun
  | [d1, d2, d3, d4, d5] => { results := [.lit (.bool false)], args := [d1, d2, d3, d4, d5] }
  | _ => none }
def NormClassesWrongFalsely : Prop := normClassesRow.holds Try.pinned (OpenSpec.ofChange normClassesWrong)

/- THE SECOND FORM. 'bulk': how many values and letters a reading holds, each counted each time it is reached (what is shared counts as often as it is met; a slice's spare places count too). A statement '..UptoSaid' is the law's where the arguments, and the package variables that the reading takes, are together of bulk at most 1048576: NARROWER than '..Said'. Prove '..Said' where nothing that the law and all that it calls make is longer than what came in: it says more and counts as full. Else prove '..UptoSaid'. A law counts once. -/
mutual
def uptoBulk {H : Type} : DataW H → Nat
  | .lit (.string bytes) => bytes.length + 1
  | .lit _ => 1
  | .nil => 1
  | .ptr d => uptoBulk d + 1
  | .slice elems spare => uptoBulkAll elems + uptoBulkAll spare + 1
  | .agg parts => uptoBulkAll parts + 1
  | .iface _ d => uptoBulk d + 1
  | .map entries => uptoBulkEntries entries + 1
  | .held _ => 1
def uptoBulkAll {H : Type} : List (DataW H) → Nat
  | [] => 0
  | d :: r => uptoBulk d + uptoBulkAll r
def uptoBulkEntries {H : Type} : List (Lit × DataW H) → Nat
  | [] => 0
  | x :: r => uptoBulkEntry x + uptoBulkEntries r
def uptoBulkEntry {H : Type} : Lit × DataW H → Nat
  | (.string bytes, d) => bytes.length + uptoBulk d + 1
  | (_, d) => uptoBulk d + 1
 end
def uptoSmall : (H : Type) → List (DataW H) → Bool := fun _ ds => decide (uptoBulkAll ds ≤ 1048576)
def OpenSpec.upto (s : _root_.Go.ChangeSpec) : _root_.Go.OpenSpec := { _root_.Go.OpenSpec.ofChange s with cond := some uptoSmall }

/-- 'trommellaw13.EvalVals', WHERE WHAT IT READS IS OF BULK AT MOST 1048576: true; the input reads as it did. -/
def evalValsUptoRow : OpenClaim := { program := "ytddambfniaiogaa", sum := "ad9c54f40ddc5bc75437d7fa89631e5a1a87610294cd49a86c29d408fdcae3d2", func := "trommel/trommellaw13.EvalVals", spec := "evalVals", inPlace := ["math/bits.Add64", "math/bits.Sub64", "internal/bytealg.abigen_runtime_cmpstring"], unfollowed := true, recurses := true, loops := true, plainKeys := false, apart := false, narrowed := true }
def EvalValsUptoSaid : Prop := evalValsUptoRow.holds Try.pinned (OpenSpec.upto evalValsSpec)

/-- 'trommellaw13.EvalTruths', WHERE WHAT IT READS IS OF BULK AT MOST 1048576: true; the input reads as it did. -/
def evalTruthsUptoRow : OpenClaim := { program := "ytddambfniaiogaa", sum := "ad9c54f40ddc5bc75437d7fa89631e5a1a87610294cd49a86c29d408fdcae3d2", func := "trommel/trommellaw13.EvalTruths", spec := "evalTruths", inPlace := ["math/bits.Add64", "math/bits.Sub64", "internal/bytealg.abigen_runtime_cmpstring"], unfollowed := true, recurses := true, loops := true, plainKeys := false, apart := false, narrowed := true }
def EvalTruthsUptoSaid : Prop := evalTruthsUptoRow.holds Try.pinned (OpenSpec.upto evalTruthsSpec)

/-- 'trommellaw13.EvalHangs', WHERE WHAT IT READS IS OF BULK AT MOST 1048576: true; the input reads as it did. -/
def evalHangsUptoRow : OpenClaim := { program := "ytddambfniaiogaa", sum := "ad9c54f40ddc5bc75437d7fa89631e5a1a87610294cd49a86c29d408fdcae3d2", func := "trommel/trommellaw13.EvalHangs", spec := "evalHangs", inPlace := ["math/bits.Add64", "math/bits.Sub64", "internal/bytealg.abigen_runtime_cmpstring"], unfollowed := true, recurses := true, loops := true, plainKeys := false, apart := false, narrowed := true }
def EvalHangsUptoSaid : Prop := evalHangsUptoRow.holds Try.pinned (OpenSpec.upto evalHangsSpec)

/-- 'trommellaw14.AggOfs', WHERE WHAT IT READS IS OF BULK AT MOST 1048576: true; the input reads as it did. -/
def aggOfsUptoRow : OpenClaim := { program := "ytddambfniaiogaa", sum := "ad9c54f40ddc5bc75437d7fa89631e5a1a87610294cd49a86c29d408fdcae3d2", func := "trommel/trommellaw14.AggOfs", spec := "aggOfs", inPlace := ["math/bits.Add64", "internal/bytealg.abigen_runtime_cmpstring"], unfollowed := true, recurses := true, plainKeys := false, apart := false, narrowed := true }
def AggOfsUptoSaid : Prop := aggOfsUptoRow.holds Try.pinned (OpenSpec.upto aggOfsSpec)

/-- 'trommellaw14.AggMerges', WHERE WHAT IT READS IS OF BULK AT MOST 1048576: true; the input reads as it did. -/
def aggMergesUptoRow : OpenClaim := { program := "ytddambfniaiogaa", sum := "ad9c54f40ddc5bc75437d7fa89631e5a1a87610294cd49a86c29d408fdcae3d2", func := "trommel/trommellaw14.AggMerges", spec := "aggMerges", inPlace := ["math/bits.Add64", "internal/bytealg.abigen_runtime_cmpstring"], unfollowed := true, recurses := true, plainKeys := false, apart := false, narrowed := true }
def AggMergesUptoSaid : Prop := aggMergesUptoRow.holds Try.pinned (OpenSpec.upto aggMergesSpec)

/-- 'trommellaw14.AggGroups', WHERE WHAT IT READS IS OF BULK AT MOST 1048576: true; the input reads as it did. -/
def aggGroupsUptoRow : OpenClaim := { program := "ytddambfniaiogaa", sum := "ad9c54f40ddc5bc75437d7fa89631e5a1a87610294cd49a86c29d408fdcae3d2", func := "trommel/trommellaw14.AggGroups", spec := "aggGroups", inPlace := ["math/bits.Add64", "internal/bytealg.abigen_runtime_cmpstring"], unfollowed := true, recurses := true, loops := true, plainKeys := false, apart := false, narrowed := true }
def AggGroupsUptoSaid : Prop := aggGroupsUptoRow.holds Try.pinned (OpenSpec.upto aggGroupsSpec)

/-- 'trommellaw11.NameExprs', WHERE WHAT IT READS IS OF BULK AT MOST 1048576: true; the input reads as it did. -/
def nameExprsUptoRow : OpenClaim := { program := "ytddambfniaiogaa", sum := "ad9c54f40ddc5bc75437d7fa89631e5a1a87610294cd49a86c29d408fdcae3d2", func := "trommel/trommellaw11.NameExprs", spec := "nameExprs", unfollowed := true, recurses := true, loops := true, plainKeys := false, apart := false, narrowed := true }
def NameExprsUptoSaid : Prop := nameExprsUptoRow.holds Try.pinned (OpenSpec.upto nameExprsSpec)

/-- 'trommellaw11.NameTwice', WHERE WHAT IT READS IS OF BULK AT MOST 1048576: true; the input reads as it did. -/
def nameTwiceUptoRow : OpenClaim := { program := "ytddambfniaiogaa", sum := "ad9c54f40ddc5bc75437d7fa89631e5a1a87610294cd49a86c29d408fdcae3d2", func := "trommel/trommellaw11.NameTwice", spec := "nameTwice", unfollowed := true, recurses := true, loops := true, plainKeys := false, apart := false, narrowed := true }
def NameTwiceUptoSaid : Prop := nameTwiceUptoRow.holds Try.pinned (OpenSpec.upto nameTwiceSpec)

/-- 'trommellaw11.NameResolves', WHERE WHAT IT READS IS OF BULK AT MOST 1048576: true; the input reads as it did. -/
def nameResolvesUptoRow : OpenClaim := { program := "ytddambfniaiogaa", sum := "ad9c54f40ddc5bc75437d7fa89631e5a1a87610294cd49a86c29d408fdcae3d2", func := "trommel/trommellaw11.NameResolves", spec := "nameResolves", unfollowed := true, recurses := true, loops := true, plainKeys := false, apart := false, narrowed := true }
def NameResolvesUptoSaid : Prop := nameResolvesUptoRow.holds Try.pinned (OpenSpec.upto nameResolvesSpec)

/-- 'trommellaw12.KindRight', WHERE WHAT IT READS IS OF BULK AT MOST 1048576: true; the input reads as it did. -/
def kindRightUptoRow : OpenClaim := { program := "ytddambfniaiogaa", sum := "ad9c54f40ddc5bc75437d7fa89631e5a1a87610294cd49a86c29d408fdcae3d2", func := "trommel/trommellaw12.KindRight", spec := "kindRight", unfollowed := true, recurses := true, loops := true, plainKeys := false, apart := false, narrowed := true }
def KindRightUptoSaid : Prop := kindRightUptoRow.holds Try.pinned (OpenSpec.upto kindRightSpec)

/-- 'trommellaw16.NormOfs', WHERE WHAT IT READS IS OF BULK AT MOST 1048576: true; the input reads as it did. -/
def normOfsUptoRow : OpenClaim := { program := "ytddambfniaiogaa", sum := "ad9c54f40ddc5bc75437d7fa89631e5a1a87610294cd49a86c29d408fdcae3d2", func := "trommel/trommellaw16.NormOfs", spec := "normOfs", unfollowed := true, recurses := true, loops := true, plainKeys := false, apart := false, narrowed := true }
def NormOfsUptoSaid : Prop := normOfsUptoRow.holds Try.pinned (OpenSpec.upto normOfsSpec)

/-- 'trommellaw16.NormClasses', WHERE WHAT IT READS IS OF BULK AT MOST 1048576: true; the input reads as it did. -/
def normClassesUptoRow : OpenClaim := { program := "ytddambfniaiogaa", sum := "ad9c54f40ddc5bc75437d7fa89631e5a1a87610294cd49a86c29d408fdcae3d2", func := "trommel/trommellaw16.NormClasses", spec := "normClasses", unfollowed := true, recurses := true, loops := true, plainKeys := false, apart := false, narrowed := true }
def NormClassesUptoSaid : Prop := normClassesUptoRow.holds Try.pinned (OpenSpec.upto normClassesSpec)

end Rows
end Go.Proofs.Ytddambfniaiogaa
