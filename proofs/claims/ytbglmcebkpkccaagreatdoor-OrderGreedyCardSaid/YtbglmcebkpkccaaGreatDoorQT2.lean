/- Expressions that come in, with what their size in bytes tells. No condition. -/
import Derived.Test.YtbglmcebkpkccaaGreatDoorHead
import Derived.Deep.RegionWith
import Derived.Test.YtbglmcebkpkccaaGreatDoorQT
import Derived.Test.YtbglmcebkpkccaaGreatDoorMuchR
import Derived.Test.YtbglmcebkpkccaaGreatDoorEx
import Derived.Test.YtbglmcebkpkccaaGreatDoorTab

/- A region that draws its order, whose first operations are walked in one order under a condition on the world, the others in every order. No condition. -/
namespace Go.Proofs.YtbglmcebkpkccaaGreatDoor
open Go.RowKit
section
variable {P : Program} {ops : Array Oper} {Q : Exit → Act → World → Prop} {S : World → Prop}
end
end Go.Proofs.YtbglmcebkpkccaaGreatDoor

/- Layer 8: the columns of an expression. Condition: expressions that lie in memory that is there. -/
namespace Go.Proofs.YtbglmcebkpkccaaGreatDoor
open Go.RowKit
attribute [local go_sem] more_cell more_frozen more_more more_setCell more_of_drew more_of_drewN lt_more le_more past_cell past_cell2 past_frozen past_frozen2 past_setCell past_setCell2 mid_cell mid_frozen mid_setCell
attribute [local go_sem ↓] Go.wp_at_zero Go.wp_at_succ

mutual
/-- Its columns, from the left on. -/
def Ex.cols : Ex → List Ex
  | .mk op tab name t c vk vi vs l => if op = 15 then [.mk op tab name t c vk vi vs l] else colsE l
def colsE : List Ex → List Ex
  | [] => []
  | x :: l => x.cols ++ colsE l
end
theorem cols_in {x : Ex} (h : x.op = 15) : x.cols = [x] := by cases x; simp only [Ex.op] at h; simp only [Ex.cols, if_pos h]
theorem cols_out {x : Ex} (h : ¬ x.op = 15) : x.cols = colsE x.l := by cases x; simp only [Ex.op] at h; simp only [Ex.cols, if_neg h, Ex.l]
theorem colsE_append (l m : List Ex) : colsE (l ++ m) = colsE l ++ colsE m := by
  induction l with
  | nil => simp [colsE]
  | cons x l ih => simp only [List.cons_append, colsE, ih, List.append_assoc]
theorem colsE_take {l : List Ex} {i : Nat} (h : i < l.length) : colsE (l.take (i + 1)) = colsE (l.take i) ++ l[i].cols := by
  rw [List.take_succ_eq_append_getElem h, colsE_append]
  simp [colsE]
theorem cols_len (x : Ex) : x.cols.length ≤ x.nodes := by
  refine ex_ind (P := fun x => x.cols.length ≤ x.nodes) (fun x ih => ?_) x
  by_cases h : x.op = 15
  · rw [cols_in h]
    exact nodes_pos x
  · rw [cols_out h, nodes_eq]
    have : ∀ l : List Ex, (∀ y ∈ l, y.cols.length ≤ y.nodes) → (colsE l).length ≤ nodesL l := by
      intro l
      induction l with
      | nil => intro _; simp [colsE]
      | cons y l ih =>
        intro h
        have h1 := h y (by simp)
        have h2 := ih fun z hz => h z (by simp [hz])
        simp only [colsE, nodesL, List.length_append]
        omega
    have := this x.l ih
    omega
theorem infoE : (Tryz.prog.info? 27).map (fun i => (i.zero, i.size, i.bytes)) = some (some (.agg #[.int .i64 0, .string ⟨#[]⟩, .string ⟨#[]⟩, .int .i64 0, .int .i64 0, .int .i64 0, .int .i64 0, .string ⟨#[]⟩, .slice none 0 0]), 9, 112) := by kernel_rfl
/-- Expressions of one's own, one by one: their cells lie in a row from a block on; what is in them lies in memory that was there. -/
def ExOwn (u w : World) (base : Nat) (A : Option Addr) (c : Nat) (l : List Ex) : Prop := ∃ css, ListR (ExR (PRow u)) 9 l css ∧ w.ownsRow base 27 9 (.slice A l.length c) l.length css.flatten
theorem exC_one (x : Ex) (A : Option Addr) (k : Nat) : ∀ u ∈ exC x A k, u.oneCell' = true := by
  intro u hu
  simp only [exC, List.mem_cons, List.not_mem_nil, or_false] at hu
  rcases hu with rfl | rfl | rfl | rfl | rfl | rfl | rfl | rfl | rfl <;> rfl
theorem listR_one {R : Rw} {l : List Ex} {css : List (List Value)} (h : ListR (ExR R) 9 l css) : ∀ u ∈ css.flatten, u.oneCell' = true := by
  intro u hu
  obtain ⟨cs, hc, hucs⟩ := List.mem_flatten.1 hu
  obtain ⟨i, hi, rfl⟩ := List.getElem_of_mem hc
  obtain ⟨A, k, he, _⟩ := (h.2 i (l[i]'(by rw [← h.1]; exact hi)) _ (List.getElem?_eq_getElem _) (List.getElem?_eq_getElem hi)).1.parts
  rw [he] at hucs
  exact exC_one _ _ _ u hucs
theorem listR_append {R : Rw} {l m : List Ex} {css dss : List (List Value)} (h : ListR (ExR R) 9 l css) (k : ListR (ExR R) 9 m dss) : ListR (ExR R) 9 (l ++ m) (css ++ dss) := by
  refine ⟨by simp [h.1, k.1], fun i x cs h1 h2 => ?_⟩
  rcases Nat.lt_or_ge i l.length with hi | hi
  · rw [List.getElem?_append_left hi] at h1
    rw [List.getElem?_append_left (by rw [h.1]; exact hi)] at h2
    exact h.2 i x cs h1 h2
  · rw [List.getElem?_append_right hi] at h1
    rw [List.getElem?_append_right (by rw [h.1]; exact hi), h.1] at h2
    exact k.2 _ x cs h1 h2
theorem listR_single {R : Rw} {x : Ex} {A : Option Addr} (h : ExsR R A x.l) (k : Nat) : ListR (ExR R) 9 [x] [exC x A k] := by
  have := (ListR.nil (R := ExR R) (size := 9)).snoc (ExR.make h k) rfl
  simpa using this
theorem ExOwn.exs {u w : World} {base : Nat} {A : Option Addr} {c : Nat} {l : List Ex} (h : ExOwn u w base A c l) (g : Grew u w) : ExsR (PRow w) A l := by
  obtain ⟨css, h1, h2⟩ := h
  obtain ⟨A', c', e, h3⟩ := own_row h2
  injection e with e _ _
  subst e
  exact ⟨css, h1.map fun x cs hx => hx.grew g, h3⟩
theorem own_grewE {w w' : World} {base : Nat} {e : TypeId} {size n : Nat} {v : Value} {xs : List Value} (h : w.ownsRow base e size v n xs) (g : Grew w w') : w'.ownsRow base e size v n xs := by
  obtain ⟨x, rfl⟩ := g
  exact own_more h x
theorem ExOwn.grew {u w w' : World} {base : Nat} {A : Option Addr} {k : Nat} {l : List Ex} (h : ExOwn u w base A k l) (g : Grew w w') : ExOwn u w' base A k l := by
  obtain ⟨css, h1, h2⟩ := h
  exact ⟨css, h1, own_grewE h2 g⟩
end Go.Proofs.YtbglmcebkpkccaaGreatDoor

/- Layer 8: the columns of an expression; the page's example. Condition: expressions that lie in memory that is there. -/
namespace Go.Proofs.YtbglmcebkpkccaaGreatDoor
open Go.RowKit
attribute [local go_sem] more_cell more_frozen more_more more_setCell more_of_drew more_of_drewN lt_more le_more past_cell past_cell2 past_frozen past_frozen2 past_setCell past_setCell2 mid_cell mid_frozen mid_setCell
attribute [local go_sem ↓] Go.wp_at_zero Go.wp_at_succ

end Go.Proofs.YtbglmcebkpkccaaGreatDoor

/- Layer 8: expressions that are made; the page's example; what is more than is asked. Condition: expressions that lie in memory that is there. -/
namespace Go.Proofs.YtbglmcebkpkccaaGreatDoor
open Go.RowKit
attribute [local go_sem] more_cell more_frozen more_more more_setCell more_of_drew more_of_drewN lt_more le_more past_cell past_cell2 past_frozen past_frozen2 past_setCell past_setCell2 mid_cell mid_frozen mid_setCell
attribute [local go_sem ↓] Go.wp_at_zero Go.wp_at_succ

theorem much8_any (x : Ex) (A : Option Addr) (k : Nat) (w : World) (ra : ExsR (PRow w) A x.l) : Calls Tryz.prog 29 #[exV x A k] w (MuchR w (x.nodes ≤ 200)) := by
  have HC : Hid (∀ W, Grew w W → Calls Tryz.prog 71 #[exV x A k, .int .i64 ((400 : Nat) : Int)] W (CountR W x 400)) := Lib.hid fun W hW => count_any _ x (Nat.lt_succ_self _) A k 400 (by omega) (by omega) W (ra.grew hW)
  clear ra
  unfold exV at *
  go_enter Tryz.func29, Tryz.ntmps29
  go_wp2_with fail
  refine (HC.out _ ((Grew.refl w).alloc _)).mono ?_
  rintro e w2 ⟨m, rfl, hg2, h1, h2, h3⟩
  have HG2 : Hid (Grew w w2) := Lib.hid (((Grew.refl w).alloc _).trans hg2)
  have HM : Hid (m < 400 → x.nodes = m) := Lib.hid h3
  clear hg2 h3
  go_wp2
  go_ret
  exact muchR_dec (c := (200 : Int) < m) HG2.out (fun hc => by have := HM.out (by omega); omega)
def es : ByteArray := ⟨#[]⟩
@[local go_sem] theorem eql_nilE (w : World) (a : Option Addr) (n c : Nat) : (binOp .eql 22 (.slice a n c) (.slice none 0 0)).run Tryz.prog w = .ok (.bool a.isNone) w := Lib.run_eql_slice_nil w _ _ a n c 0 0 Tryz.underlying22
/-- A copy of expressions is handed back: in a row of one's own. -/
def OwnF (u w : World) (l : List Ex) (e : Ending) (w' : World) : Prop := ∃ A k, e = .returned (.slice A l.length k) ∧ Grew w w' ∧ ExOwn u w' w.heap.size A k l
end Go.Proofs.YtbglmcebkpkccaaGreatDoor

namespace Go.Proofs.YtbglmcebkpkccaaGreatDoor
open Go.RowKit Go.ChangeShapes Go.WideShapes Go.ChangeAt

/-- No part takes more than the reach, and numbers are numbers. -/
inductive ExOk : Ex → Prop
  | mk (x : Ex) (h0 : (Lit.int .i64 x.op).wf = true) (h1 : x.tab.size ≤ 140737488355328) (h2 : x.name.size ≤ 140737488355328) (h3 : (Lit.int .i64 x.t).wf = true) (h4 : (Lit.int .i64 x.c).wf = true) (h5 : VlOk ⟨x.vk, x.vi, x.vs⟩)
      (h6 : x.l.length ≤ 140737488355328) (h7 : ∀ y ∈ x.l, ExOk y) : ExOk x
def ExsOk (l : List Ex) : Prop := l.length ≤ 140737488355328 ∧ ∀ y ∈ l, ExOk y
theorem ExOk.parts {x : Ex} (h : ExOk x) : ExsOk x.l := by
  obtain ⟨_, _, _, _, _, _, _, h6, h7⟩ := h
  exact ⟨h6, h7⟩
theorem ExOk.val {x : Ex} (h : ExOk x) : VlOk ⟨x.vk, x.vi, x.vs⟩ := by
  obtain ⟨_, _, _, _, _, _, h5, _, _⟩ := h
  exact h5
section
variable {H : Type} {enc : TypeId × Value → H} {P : Program} {W : World}
end
end Go.Proofs.YtbglmcebkpkccaaGreatDoor
