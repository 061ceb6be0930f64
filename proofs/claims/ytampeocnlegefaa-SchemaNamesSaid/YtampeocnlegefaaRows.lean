/-
  NARROWER THAN 'FOR EVERY INPUT', by the rows' own cells (each row's printed sentence says how): TreeTells: loops · TreeSames: loops · TreeQueries: loops.
  DERIVED. THE GIVEN ROWS OF THIS SEAT. 9 by the template 'for every input the law returns true; each argument reads behind the call as it read before'; 0 by the template 'total and deterministic' (their statements: YtampeocnlegefaaTotals.lean).
  GIVEN WITH THE SEED: the statements are not yours to turn. If you find one false, say at which input.
  Laid BY PROGRAM, IN A SANDBOX (cutbox-rows.mjs): the forced cells as the released guide's own fill.sh prints them over the translation c9e6d768e8b1d26f… (all of the seat's roots in one cut). By AI agents, Wed Nov 11 2026. No macro, syntax, notation, axiom, sorry.
-/
import Derived.Test.YtampeocnlegefaaChecked
import GoSem.Claim
import GoSem.ClaimJoined
import GoSem.ClaimMapViews
import Derived.JoinedTies
import Derived.KernelRfl
namespace Go.Proofs.Ytampeocnlegefaa
/- THE CELL 'sum', in the pinned program and in every row, IS THE sha256 OF THE DUMP (.gsa) THAT YtampeocnlegefaaProg.lean LOADS. Nothing in Lean hashes anything: it is a label: what it is worth is what the hold of that sum in a sandbox is worth. -/
noncomputable def Try.pinned : Pinned := { name := "ytampeocnlegefaa", sum := "c9e6d768e8b1d26f8540403a280aa5f72b16cb20909483863a0520ab08c81e3b", checked := Try.checked }
namespace Rows
def none {H : Type} : Left H := { results := [], args := [] }

/-- 'trommellaw05.SchemaChecks': WHATEVER THE INPUT: true; the input reads as it did. -/
def schemaChecksSpec : ChangeSpec := { name := "schemaChecks", fn := fun _ => fun
  | [d] => { results := [.lit (.bool true)], args := [d] }
  | _ => none }
def schemaChecksRow : OpenClaim := { program := "ytampeocnlegefaa", sum := "c9e6d768e8b1d26f8540403a280aa5f72b16cb20909483863a0520ab08c81e3b", func := "trommel/trommellaw05.SchemaChecks", spec := "schemaChecks", unfollowed := true, recurses := true, apart := false }
def SchemaChecksSaid : Prop := schemaChecksRow.holds Try.pinned (OpenSpec.ofChange schemaChecksSpec)

/-- ITS FALSE NEIGHBOUR: 'it returns false'. Refute it at one input. -/
def schemaChecksWrong : ChangeSpec := { name := "schemaChecks", fn := fun _ => fun
  | [d] => { results := [.lit (.bool false)], args := [d] }
  | _ => none }
def SchemaChecksWrongFalsely : Prop := schemaChecksRow.holds Try.pinned (OpenSpec.ofChange schemaChecksWrong)

/-- 'trommellaw05.SchemaNames': WHATEVER THE INPUT: true; the input reads as it did. -/
def schemaNamesSpec : ChangeSpec := { name := "schemaNames", fn := fun _ => fun
  | [d] => { results := [.lit (.bool true)], args := [d] }
  | _ => none }
def schemaNamesRow : OpenClaim := { program := "ytampeocnlegefaa", sum := "c9e6d768e8b1d26f8540403a280aa5f72b16cb20909483863a0520ab08c81e3b", func := "trommel/trommellaw05.SchemaNames", spec := "schemaNames", apart := false }
def SchemaNamesSaid : Prop := schemaNamesRow.holds Try.pinned (OpenSpec.ofChange schemaNamesSpec)

/-- ITS FALSE NEIGHBOUR: 'it returns false'. Refute it at one input. -/
def schemaNamesWrong : ChangeSpec := { name := "schemaNames", fn := fun _ => fun
  | [d] => { results := [.lit (.bool false)], args := [d] }
  | _ => none }
def SchemaNamesWrongFalsely : Prop := schemaNamesRow.holds Try.pinned (OpenSpec.ofChange schemaNamesWrong)

/-- 'trommellaw05.SchemaFinds': WHATEVER THE INPUT: true; the input reads as it did. -/
def schemaFindsSpec : ChangeSpec := { name := "schemaFinds", fn := fun _ => fun
  | [d1, d2, d3, d4] => { results := [.lit (.bool true)], args := [d1, d2, d3, d4] }
  | _ => none }
def schemaFindsRow : OpenClaim := { program := "ytampeocnlegefaa", sum := "c9e6d768e8b1d26f8540403a280aa5f72b16cb20909483863a0520ab08c81e3b", func := "trommel/trommellaw05.SchemaFinds", spec := "schemaFinds", unfollowed := true, recurses := true, apart := false }
def SchemaFindsSaid : Prop := schemaFindsRow.holds Try.pinned (OpenSpec.ofChange schemaFindsSpec)

/-- ITS FALSE NEIGHBOUR: 'it returns false'. Refute it at one input. -/
def schemaFindsWrong : ChangeSpec := { name := "schemaFinds", fn := fun _ => fun
  | [d1, d2, d3, d4] => { results := [.lit (.bool false)], args := [d1, d2, d3, d4] }
  | _ => none }
def SchemaFindsWrongFalsely : Prop := schemaFindsRow.holds Try.pinned (OpenSpec.ofChange schemaFindsWrong)

/-- 'trommellaw06.UfJoins': WHATEVER THE INPUT: true; the input reads as it did. -/
def ufJoinsSpec : ChangeSpec := { name := "ufJoins", fn := fun _ => fun
  | [d1, d2, d3, d4] => { results := [.lit (.bool true)], args := [d1, d2, d3, d4] }
  | _ => none }
def ufJoinsRow : OpenClaim := { program := "ytampeocnlegefaa", sum := "c9e6d768e8b1d26f8540403a280aa5f72b16cb20909483863a0520ab08c81e3b", func := "trommel/trommellaw06.UfJoins", spec := "ufJoins", apart := false }
def UfJoinsSaid : Prop := ufJoinsRow.holds Try.pinned (OpenSpec.ofChange ufJoinsSpec)

/-- ITS FALSE NEIGHBOUR: 'it returns false'. Refute it at one input. -/
def ufJoinsWrong : ChangeSpec := { name := "ufJoins", fn := fun _ => fun
  | [d1, d2, d3, d4] => { results := [.lit (.bool false)], args := [d1, d2, d3, d4] }
  | _ => none }
def UfJoinsWrongFalsely : Prop := ufJoinsRow.holds Try.pinned (OpenSpec.ofChange ufJoinsWrong)

/-- 'trommellaw06.UfAlls': WHATEVER THE INPUT: true; the input reads as it did. -/
def ufAllsSpec : ChangeSpec := { name := "ufAlls", fn := fun _ => fun
  | [d1, d2, d3] => { results := [.lit (.bool true)], args := [d1, d2, d3] }
  | _ => none }
def ufAllsRow : OpenClaim := { program := "ytampeocnlegefaa", sum := "c9e6d768e8b1d26f8540403a280aa5f72b16cb20909483863a0520ab08c81e3b", func := "trommel/trommellaw06.UfAlls", spec := "ufAlls", apart := false }
def UfAllsSaid : Prop := ufAllsRow.holds Try.pinned (OpenSpec.ofChange ufAllsSpec)

/-- ITS FALSE NEIGHBOUR: 'it returns false'. Refute it at one input. -/
def ufAllsWrong : ChangeSpec := { name := "ufAlls", fn := fun _ => fun
  | [d1, d2, d3] => { results := [.lit (.bool false)], args := [d1, d2, d3] }
  | _ => none }
def UfAllsWrongFalsely : Prop := ufAllsRow.holds Try.pinned (OpenSpec.ofChange ufAllsWrong)

/-- 'trommellaw06.UfOrders': WHATEVER THE INPUT: true; the input reads as it did. -/
def ufOrdersSpec : ChangeSpec := { name := "ufOrders", fn := fun _ => fun
  | [d1, d2, d3, d4, d5] => { results := [.lit (.bool true)], args := [d1, d2, d3, d4, d5] }
  | _ => none }
def ufOrdersRow : OpenClaim := { program := "ytampeocnlegefaa", sum := "c9e6d768e8b1d26f8540403a280aa5f72b16cb20909483863a0520ab08c81e3b", func := "trommel/trommellaw06.UfOrders", spec := "ufOrders", apart := false }
def UfOrdersSaid : Prop := ufOrdersRow.holds Try.pinned (OpenSpec.ofChange ufOrdersSpec)

/-- ITS FALSE NEIGHBOUR: 'it returns false'. Refute it at one input. -/
def ufOrdersWrong : ChangeSpec := { name := "ufOrders", fn := fun _ => fun
  | [d1, d2, d3, d4, d5] => { results := [.lit (.bool false)], args := [d1, d2, d3, d4, d5] }
  | _ => none }
def UfOrdersWrongFalsely : Prop := ufOrdersRow.holds Try.pinned (OpenSpec.ofChange ufOrdersWrong)

/-- 'trommellaw08.TreeTells': WHATEVER THE INPUT: true; the input reads as it did. -/
def treeTellsSpec : ChangeSpec := { name := "treeTells", fn := fun _ => fun
  | [d1, d2] => { results := [.lit (.bool true)], args := [d1, d2] }
  | _ => none }
def treeTellsRow : OpenClaim := { program := "ytampeocnlegefaa", sum := "c9e6d768e8b1d26f8540403a280aa5f72b16cb20909483863a0520ab08c81e3b", func := "trommel/trommellaw08.TreeTells", spec := "treeTells", unfollowed := true, recurses := true, loops := true, apart := false }
def TreeTellsSaid : Prop := treeTellsRow.holds Try.pinned (OpenSpec.ofChange treeTellsSpec)

/-- ITS FALSE NEIGHBOUR: 'it returns false'. Refute it at one input. -/
def treeTellsWrong : ChangeSpec := { name := "treeTells", fn := fun _ => fun
  | [d1, d2] => { results := [.lit (.bool false)], args := [d1, d2] }
  | _ => none }
def TreeTellsWrongFalsely : Prop := treeTellsRow.holds Try.pinned (OpenSpec.ofChange treeTellsWrong)

/-- 'trommellaw08.TreeSames': WHATEVER THE INPUT: true; the input reads as it did. -/
def treeSamesSpec : ChangeSpec := { name := "treeSames", fn := fun _ => fun
  | [d1, d2] => { results := [.lit (.bool true)], args := [d1, d2] }
  | _ => none }
def treeSamesRow : OpenClaim := { program := "ytampeocnlegefaa", sum := "c9e6d768e8b1d26f8540403a280aa5f72b16cb20909483863a0520ab08c81e3b", func := "trommel/trommellaw08.TreeSames", spec := "treeSames", unfollowed := true, recurses := true, loops := true, apart := false }
def TreeSamesSaid : Prop := treeSamesRow.holds Try.pinned (OpenSpec.ofChange treeSamesSpec)

/-- ITS FALSE NEIGHBOUR: 'it returns false'. Refute it at one input. -/
def treeSamesWrong : ChangeSpec := { name := "treeSames", fn := fun _ => fun
  | [d1, d2] => { results := [.lit (.bool false)], args := [d1, d2] }
  | _ => none }
def TreeSamesWrongFalsely : Prop := treeSamesRow.holds Try.pinned (OpenSpec.ofChange treeSamesWrong)

/-- 'trommellaw08.TreeQueries': WHATEVER THE INPUT: true; the input reads as it did. -/
def treeQueriesSpec : ChangeSpec := { name := "treeQueries", fn := fun _ => fun
  | [d1, d2, d3, d4, d5, d6] => { results := [.lit (.bool true)], args := [d1, d2, d3, d4, d5, d6] }
  | _ => none }
def treeQueriesRow : OpenClaim := { program := "ytampeocnlegefaa", sum := "c9e6d768e8b1d26f8540403a280aa5f72b16cb20909483863a0520ab08c81e3b", func := "trommel/trommellaw08.TreeQueries", spec := "treeQueries", unfollowed := true, recurses := true, loops := true, apart := false }
def TreeQueriesSaid : Prop := treeQueriesRow.holds Try.pinned (OpenSpec.ofChange treeQueriesSpec)

/-- ITS FALSE NEIGHBOUR: 'it returns false'. Refute it at one input. -/
def treeQueriesWrong : ChangeSpec := { name := "treeQueries", fn := fun _ => fun
  | [d1, d2, d3, d4, d5, d6] => { results := [.lit (.bool false)], args := [d1, d2, d3, d4, d5, d6] }
  | _ => none }
def TreeQueriesWrongFalsely : Prop := treeQueriesRow.holds Try.pinned (OpenSpec.ofChange treeQueriesWrong)

/- THE SECOND FORM. 'bulk': how many values and letters a reading holds, each counted each time it is reached (what is shared counts as often as it is met; a slice's spare places count too). A statement '..UptoSaid' is the law's where the arguments, and the package variables that the reading takes, are together of bulk at most 1048576: NARROWER than '..Said'. Prove '..Said' where nothing that the law and all that it calls make is longer than what came in: it says more and counts as full. Else prove '..UptoSaid'. A law counts once. -/
mutual
def uptoBulk {H : Type} : DataW H → Nat
  | .lit (.string bytes) => bytes.length + 1
  | .lit _ => 1
  | .nil => 1
  | .ptr d => uptoBulk d + 1
  | .slice elems spare => uptoBulkAll elems + uptoBulkAll spare + 1
  | .agg parts => uptoBulkAll parts + 1
  | .iface _ d => uptoBulk d + 1
  | .map entries => uptoBulkEntries entries + 1
  | .held _ => 1
def uptoBulkAll {H : Type} : List (DataW H) → Nat
  | [] => 0
  | d :: r => uptoBulk d + uptoBulkAll r
def uptoBulkEntries {H : Type} : List (Lit × DataW H) → Nat
  | [] => 0
  | x :: r => uptoBulkEntry x + uptoBulkEntries r
def uptoBulkEntry {H : Type} : Lit × DataW H → Nat
  | (.string bytes, d) => bytes.length + uptoBulk d + 1
  | (_, d) => uptoBulk d + 1
 end
def uptoSmall : (H : Type) → List (DataW H) → Bool := fun _ ds => decide (uptoBulkAll ds ≤ 1048576)
def OpenSpec.upto (s : _root_.Go.ChangeSpec) : _root_.Go.OpenSpec := { _root_.Go.OpenSpec.ofChange s with cond := some uptoSmall }

/-- 'trommellaw05.SchemaChecks', WHERE WHAT IT READS IS OF BULK AT MOST 1048576: true; the input reads as it did. -/
def schemaChecksUptoRow : OpenClaim := { program := "ytampeocnlegefaa", sum := "c9e6d768e8b1d26f8540403a280aa5f72b16cb20909483863a0520ab08c81e3b", func := "trommel/trommellaw05.SchemaChecks", spec := "schemaChecks", unfollowed := true, recurses := true, apart := false, narrowed := true }
def SchemaChecksUptoSaid : Prop := schemaChecksUptoRow.holds Try.pinned (OpenSpec.upto schemaChecksSpec)

/-- 'trommellaw05.SchemaNames', WHERE WHAT IT READS IS OF BULK AT MOST 1048576: true; the input reads as it did. -/
def schemaNamesUptoRow : OpenClaim := { program := "ytampeocnlegefaa", sum := "c9e6d768e8b1d26f8540403a280aa5f72b16cb20909483863a0520ab08c81e3b", func := "trommel/trommellaw05.SchemaNames", spec := "schemaNames", apart := false, narrowed := true }
def SchemaNamesUptoSaid : Prop := schemaNamesUptoRow.holds Try.pinned (OpenSpec.upto schemaNamesSpec)

/-- 'trommellaw05.SchemaFinds', WHERE WHAT IT READS IS OF BULK AT MOST 1048576: true; the input reads as it did. -/
def schemaFindsUptoRow : OpenClaim := { program := "ytampeocnlegefaa", sum := "c9e6d768e8b1d26f8540403a280aa5f72b16cb20909483863a0520ab08c81e3b", func := "trommel/trommellaw05.SchemaFinds", spec := "schemaFinds", unfollowed := true, recurses := true, apart := false, narrowed := true }
def SchemaFindsUptoSaid : Prop := schemaFindsUptoRow.holds Try.pinned (OpenSpec.upto schemaFindsSpec)

/-- 'trommellaw06.UfJoins', WHERE WHAT IT READS IS OF BULK AT MOST 1048576: true; the input reads as it did. -/
def ufJoinsUptoRow : OpenClaim := { program := "ytampeocnlegefaa", sum := "c9e6d768e8b1d26f8540403a280aa5f72b16cb20909483863a0520ab08c81e3b", func := "trommel/trommellaw06.UfJoins", spec := "ufJoins", apart := false, narrowed := true }
def UfJoinsUptoSaid : Prop := ufJoinsUptoRow.holds Try.pinned (OpenSpec.upto ufJoinsSpec)

/-- 'trommellaw06.UfAlls', WHERE WHAT IT READS IS OF BULK AT MOST 1048576: true; the input reads as it did. -/
def ufAllsUptoRow : OpenClaim := { program := "ytampeocnlegefaa", sum := "c9e6d768e8b1d26f8540403a280aa5f72b16cb20909483863a0520ab08c81e3b", func := "trommel/trommellaw06.UfAlls", spec := "ufAlls", apart := false, narrowed := true }
def UfAllsUptoSaid : Prop := ufAllsUptoRow.holds Try.pinned (OpenSpec.upto ufAllsSpec)

/-- 'trommellaw06.UfOrders', WHERE WHAT IT READS IS OF BULK AT MOST 1048576: true; the input reads as it did. -/
def ufOrdersUptoRow : OpenClaim := { program := "ytampeocnlegefaa", sum := "c9e6d768e8b1d26f8540403a280aa5f72b16cb20909483863a0520ab08c81e3b", func := "trommel/trommellaw06.UfOrders", spec := "ufOrders", apart := false, narrowed := true }
def UfOrdersUptoSaid : Prop := ufOrdersUptoRow.holds Try.pinned (OpenSpec.upto ufOrdersSpec)

/-- 'trommellaw08.TreeTells', WHERE WHAT IT READS IS OF BULK AT MOST 1048576: true; the input reads as it did. -/
def treeTellsUptoRow : OpenClaim := { program := "ytampeocnlegefaa", sum := "c9e6d768e8b1d26f8540403a280aa5f72b16cb20909483863a0520ab08c81e3b", func := "trommel/trommellaw08.TreeTells", spec := "treeTells", unfollowed := true, recurses := true, loops := true, apart := false, narrowed := true }
def TreeTellsUptoSaid : Prop := treeTellsUptoRow.holds Try.pinned (OpenSpec.upto treeTellsSpec)

/-- 'trommellaw08.TreeSames', WHERE WHAT IT READS IS OF BULK AT MOST 1048576: true; the input reads as it did. -/
def treeSamesUptoRow : OpenClaim := { program := "ytampeocnlegefaa", sum := "c9e6d768e8b1d26f8540403a280aa5f72b16cb20909483863a0520ab08c81e3b", func := "trommel/trommellaw08.TreeSames", spec := "treeSames", unfollowed := true, recurses := true, loops := true, apart := false, narrowed := true }
def TreeSamesUptoSaid : Prop := treeSamesUptoRow.holds Try.pinned (OpenSpec.upto treeSamesSpec)

/-- 'trommellaw08.TreeQueries', WHERE WHAT IT READS IS OF BULK AT MOST 1048576: true; the input reads as it did. -/
def treeQueriesUptoRow : OpenClaim := { program := "ytampeocnlegefaa", sum := "c9e6d768e8b1d26f8540403a280aa5f72b16cb20909483863a0520ab08c81e3b", func := "trommel/trommellaw08.TreeQueries", spec := "treeQueries", unfollowed := true, recurses := true, loops := true, apart := false, narrowed := true }
def TreeQueriesUptoSaid : Prop := treeQueriesUptoRow.holds Try.pinned (OpenSpec.upto treeQueriesSpec)

end Rows
end Go.Proofs.Ytampeocnlegefaa
