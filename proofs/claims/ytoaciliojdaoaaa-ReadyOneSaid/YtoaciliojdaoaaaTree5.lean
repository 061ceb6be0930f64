/- Layer 8: how many parts, how deep, which sums, how it binds. Condition: expressions that lie in memory that is there. -/
import Derived.Test.YtoaciliojdaoaaaTree4
namespace Go.Proofs.Ytoaciliojdaoaaa
open Go.RowKit
attribute [local go_sem] more_cell more_frozen more_more more_setCell more_of_drew more_of_drewN lt_more le_more past_cell past_cell2 past_frozen past_frozen2 past_setCell past_setCell2 mid_cell mid_frozen mid_setCell
attribute [local go_sem ↓] Go.wp_at_zero Go.wp_at_succ

mutual
def Ex.depth : Ex → Nat
  | .mk _ _ _ _ _ _ _ _ l => depthL l + 1
def depthL : List Ex → Nat
  | [] => 0
  | x :: l => max x.depth (depthL l)
end
theorem depth_eq (x : Ex) : x.depth = depthL x.l + 1 := by cases x; simp only [Ex.depth, Ex.l]
theorem depthL_append (l m : List Ex) : depthL (l ++ m) = max (depthL l) (depthL m) := by
  induction l with
  | nil => simp [depthL]
  | cons x l ih => simp only [List.cons_append, depthL, ih, Nat.max_assoc]
theorem depthL_take {l : List Ex} {i : Nat} (h : i < l.length) : depthL (l.take (i + 1)) = max (depthL (l.take i)) l[i].depth := by
  rw [List.take_succ_eq_append_getElem h, depthL_append]
  simp [depthL]
theorem depth_nodes (x : Ex) : x.depth ≤ x.nodes := by
  refine ex_ind (P := fun x => x.depth ≤ x.nodes) (fun x ih => ?_) x
  rw [depth_eq, nodes_eq]
  have : ∀ l : List Ex, (∀ y ∈ l, y.depth ≤ y.nodes) → depthL l ≤ nodesL l := by
    intro l
    induction l with
    | nil => intro _; simp [depthL, nodesL]
    | cons y l ih =>
      intro h
      have h1 := h y (by simp)
      have h2 := ih fun z hz => h z (by simp [hz])
      simp only [depthL, nodesL]
      omega
  have := this x.l ih
  omega
mutual
def Ex.sums : Ex → Bool
  | .mk op _ _ _ _ _ _ _ l => decide (17 ≤ op ∧ op ≤ 21) || sumsL l
def sumsL : List Ex → Bool
  | [] => false
  | x :: l => x.sums || sumsL l
end
theorem sums_eq (x : Ex) : x.sums = (decide (17 ≤ x.op ∧ x.op ≤ 21) || sumsL x.l) := by cases x; rw [Ex.sums]; rfl
theorem sumsL_append (l m : List Ex) : sumsL (l ++ m) = (sumsL l || sumsL m) := by
  induction l with
  | nil => simp [sumsL]
  | cons x l ih => simp only [List.cons_append, sumsL, ih, Bool.or_assoc]
theorem sumsL_take {l : List Ex} {i : Nat} (h : i < l.length) : sumsL (l.take (i + 1)) = (sumsL (l.take i) || l[i].sums) := by
  rw [List.take_succ_eq_append_getElem h, sumsL_append]
  simp [sumsL]
theorem sumsL_some {l : List Ex} {i : Nat} (h : i < l.length) (hs : l[i].sums = true) : sumsL l = true := by
  have e : l = l.take i ++ l.drop i := (List.take_append_drop i l).symm
  rw [e, sumsL_append, List.drop_eq_getElem_cons h]
  simp [sumsL, hs]

theorem blok_set1 {w : World} {c : Nat} {t : TypeId} {a : Value} (h : Blok w c t #[a]) (v : Value) : Blok (w.setCell ⟨c, 0, none⟩ v) c t #[v] := by
  have := h.set 0 v
  simpa using this
theorem Turns.alloc {w w' : World} {c : Nat} (h : Turns w w' c) (o : Obj) : Turns w (w'.alloc o) c := h.grew ((Grew.refl w').alloc o)
end Go.Proofs.Ytoaciliojdaoaaa
