/- Layer 8: the columns of an expression. Condition: expressions that lie in memory that is there. -/
import Derived.Test.YtajjedgpfeakjaaDoorTree7
import Derived.Test.YtajjedgpfeakjaaDoorTail
namespace Go.Proofs.YtajjedgpfeakjaaDoor
open Go.RowKit
attribute [local go_sem] more_cell more_frozen more_more more_setCell more_of_drew more_of_drewN lt_more le_more past_cell past_cell2 past_frozen past_frozen2 past_setCell past_setCell2 mid_cell mid_frozen mid_setCell
attribute [local go_sem ↓] Go.wp_at_zero Go.wp_at_succ

mutual
/-- Its columns, from the left on. -/
def Ex.cols : Ex → List Ex
  | .mk op tab name t c vk vi vs l => if op = 15 then [.mk op tab name t c vk vi vs l] else colsE l
def colsE : List Ex → List Ex
  | [] => []
  | x :: l => x.cols ++ colsE l
end
theorem cols_in {x : Ex} (h : x.op = 15) : x.cols = [x] := by cases x; simp only [Ex.op] at h; simp only [Ex.cols, if_pos h]
theorem cols_out {x : Ex} (h : ¬ x.op = 15) : x.cols = colsE x.l := by cases x; simp only [Ex.op] at h; simp only [Ex.cols, if_neg h, Ex.l]
theorem colsE_append (l m : List Ex) : colsE (l ++ m) = colsE l ++ colsE m := by
  induction l with
  | nil => simp [colsE]
  | cons x l ih => simp only [List.cons_append, colsE, ih, List.append_assoc]
theorem colsE_take {l : List Ex} {i : Nat} (h : i < l.length) : colsE (l.take (i + 1)) = colsE (l.take i) ++ l[i].cols := by
  rw [List.take_succ_eq_append_getElem h, colsE_append]
  simp [colsE]
theorem cols_len (x : Ex) : x.cols.length ≤ x.nodes := by
  refine ex_ind (P := fun x => x.cols.length ≤ x.nodes) (fun x ih => ?_) x
  by_cases h : x.op = 15
  · rw [cols_in h]
    exact nodes_pos x
  · rw [cols_out h, nodes_eq]
    have : ∀ l : List Ex, (∀ y ∈ l, y.cols.length ≤ y.nodes) → (colsE l).length ≤ nodesL l := by
      intro l
      induction l with
      | nil => intro _; simp [colsE]
      | cons y l ih =>
        intro h
        have h1 := h y (by simp)
        have h2 := ih fun z hz => h z (by simp [hz])
        simp only [colsE, nodesL, List.length_append]
        omega
    have := this x.l ih
    omega
theorem infoE : (Tryd.prog.info? 26).map (fun i => (i.zero, i.size, i.bytes)) = some (some (.agg #[.int .i64 0, .string ⟨#[]⟩, .string ⟨#[]⟩, .int .i64 0, .int .i64 0, .int .i64 0, .int .i64 0, .string ⟨#[]⟩, .slice none 0 0]), 9, 112) := by kernel_rfl
/-- Expressions of one's own, one by one: their cells lie in a row from a block on; what is in them lies in memory that was there. -/
def ExOwn (u w : World) (base : Nat) (A : Option Addr) (c : Nat) (l : List Ex) : Prop := ∃ css, ListR (ExR (PRow u)) 9 l css ∧ w.ownsRow base 26 9 (.slice A l.length c) l.length css.flatten
theorem exC_one (x : Ex) (A : Option Addr) (k : Nat) : ∀ u ∈ exC x A k, u.oneCell' = true := by
  intro u hu
  simp only [exC, List.mem_cons, List.not_mem_nil, or_false] at hu
  rcases hu with rfl | rfl | rfl | rfl | rfl | rfl | rfl | rfl | rfl <;> rfl
theorem listR_one {R : Rw} {l : List Ex} {css : List (List Value)} (h : ListR (ExR R) 9 l css) : ∀ u ∈ css.flatten, u.oneCell' = true := by
  intro u hu
  obtain ⟨cs, hc, hucs⟩ := List.mem_flatten.1 hu
  obtain ⟨i, hi, rfl⟩ := List.getElem_of_mem hc
  obtain ⟨A, k, he, _⟩ := (h.2 i (l[i]'(by rw [← h.1]; exact hi)) _ (List.getElem?_eq_getElem _) (List.getElem?_eq_getElem hi)).1.parts
  rw [he] at hucs
  exact exC_one _ _ _ u hucs
theorem listR_append {R : Rw} {l m : List Ex} {css dss : List (List Value)} (h : ListR (ExR R) 9 l css) (k : ListR (ExR R) 9 m dss) : ListR (ExR R) 9 (l ++ m) (css ++ dss) := by
  refine ⟨by simp [h.1, k.1], fun i x cs h1 h2 => ?_⟩
  rcases Nat.lt_or_ge i l.length with hi | hi
  · rw [List.getElem?_append_left hi] at h1
    rw [List.getElem?_append_left (by rw [h.1]; exact hi)] at h2
    exact h.2 i x cs h1 h2
  · rw [List.getElem?_append_right hi] at h1
    rw [List.getElem?_append_right (by rw [h.1]; exact hi), h.1] at h2
    exact k.2 _ x cs h1 h2
theorem listR_single {R : Rw} {x : Ex} {A : Option Addr} (h : ExsR R A x.l) (k : Nat) : ListR (ExR R) 9 [x] [exC x A k] := by
  have := (ListR.nil (R := ExR R) (size := 9)).snoc (ExR.make h k) rfl
  simpa using this
theorem ExOwn.exs {u w : World} {base : Nat} {A : Option Addr} {c : Nat} {l : List Ex} (h : ExOwn u w base A c l) (g : Grew u w) : ExsR (PRow w) A l := by
  obtain ⟨css, h1, h2⟩ := h
  obtain ⟨A', c', e, h3⟩ := own_row h2
  injection e with e _ _
  subst e
  exact ⟨css, h1.map fun x cs hx => hx.grew g, h3⟩
/-- A row of whole structs that was just made. -/
theorem own_lit (w : World) (base : Nat) (e : TypeId) (size n b : Nat) (cs : Array Value) (hb : b = w.heap.size) (h : base ≤ b) (hs : cs.size = n * size) (hn : n ≤ 1000000) : (w.alloc (.cells cs e)).ownsRow base e size (.slice (some ⟨b, 0, none⟩) n n) n cs.toList := by
  subst hb
  exact ⟨by simpa using hs, Or.inr ⟨w.heap.size, n, cs, rfl, h, heap_alloc_new w _, Nat.le_refl _, by unfold maxLen; omega, by rw [hs], by rw [List.take_of_length_le (by simp [hs])]⟩⟩
theorem set9 (xs : List Value) (p : Nat) (z0 z1 z2 z3 z4 z5 z6 z7 z8 v0 v1 v2 v3 v4 v5 v6 v7 v8 : Value) (hp : xs.length = p) :
    ((((((((((xs ++ [z0, z1, z2, z3, z4, z5, z6, z7, z8]).set p v0).set (p + 1) v1).set (p + 2) v2).set (p + 3) v3).set (p + 4) v4).set (p + 5) v5).set (p + 6) v6).set (p + 7) v7).set (p + 8) v8) = xs ++ [v0, v1, v2, v3, v4, v5, v6, v7, v8] := by
  subst hp
  have h : ∀ (ys : List Value) (j : Nat) (v : Value), (xs ++ ys).set (xs.length + j) v = xs ++ ys.set j v := fun ys j v => by
    rw [List.set_append_right _ _ (by omega)]
    congr 2
    omega
  have h0 := h [z0, z1, z2, z3, z4, z5, z6, z7, z8] 0 v0
  rw [Nat.add_zero] at h0
  rw [h0, h, h, h, h, h, h, h, h]
  rfl
/-- A struct of nine cells is stored in its place. -/
theorem own_nine {w : World} {base g n cap p : Nat} {e : TypeId} {xs : List Value} {z0 z1 z2 z3 z4 z5 z6 z7 z8 : Value} (h : w.ownsRow base e 9 (.slice (some ⟨g, 0, none⟩) n cap) n (xs ++ [z0, z1, z2, z3, z4, z5, z6, z7, z8])) (hp : xs.length = p) (v0 v1 v2 v3 v4 v5 v6 v7 v8 : Value) :
    (((((((((w.setCell ⟨g, p, none⟩ v0).setCell ⟨g, p + 1, none⟩ v1).setCell ⟨g, p + 2, none⟩ v2).setCell ⟨g, p + 3, none⟩ v3).setCell ⟨g, p + 4, none⟩ v4).setCell ⟨g, p + 5, none⟩ v5).setCell ⟨g, p + 6, none⟩ v6).setCell ⟨g, p + 7, none⟩ v7).setCell ⟨g, p + 8, none⟩ v8).ownsRow base e 9 (.slice (some ⟨g, 0, none⟩) n cap) n (xs ++ [v0, v1, v2, v3, v4, v5, v6, v7, v8]) := by
  have := ((((((((((h.stored p v0).1.stored (p + 1) v1).1.stored (p + 2) v2).1.stored (p + 3) v3).1.stored (p + 4) v4).1.stored (p + 5) v5).1.stored (p + 6) v6).1.stored (p + 7) v7).1.stored (p + 8) v8).1)
  rw [set9 xs p _ _ _ _ _ _ _ _ _ _ _ _ _ _ _ _ _ _ hp] at this
  exact this
theorem cells_nine {w : World} {base g n cap p : Nat} {e : TypeId} {xs : List Value} {z0 z1 z2 z3 z4 z5 z6 z7 z8 : Value} (h : w.ownsRow base e 9 (.slice (some ⟨g, 0, none⟩) n cap) n (xs ++ [z0, z1, z2, z3, z4, z5, z6, z7, z8])) (hp : xs.length = p) (hn : p + 9 = n * 9) :
    w.cell? ⟨g, p, none⟩ = some z0 ∧ w.cell? ⟨g, p + 1, none⟩ = some z1 ∧ w.cell? ⟨g, p + 2, none⟩ = some z2 ∧ w.cell? ⟨g, p + 3, none⟩ = some z3 ∧ w.cell? ⟨g, p + 4, none⟩ = some z4 ∧ w.cell? ⟨g, p + 5, none⟩ = some z5 ∧ w.cell? ⟨g, p + 6, none⟩ = some z6 ∧ w.cell? ⟨g, p + 7, none⟩ = some z7 ∧ w.cell? ⟨g, p + 8, none⟩ = some z8 := by
  have k : ∀ j u, [z0, z1, z2, z3, z4, z5, z6, z7, z8][j]? = some u → w.cell? ⟨g, p + j, none⟩ = some u := fun j u hu => by
    have hj : j < 9 := by
      rcases Nat.lt_or_ge j 9 with h | h
      · exact h
      · rw [List.getElem?_eq_none (by simpa using h)] at hu; cases hu
    rw [h.cellAt (p + j) (by omega), List.getElem?_append_right (by omega), hp, Nat.add_sub_cancel_left]
    exact hu
  exact ⟨k 0 _ rfl, k 1 _ rfl, k 2 _ rfl, k 3 _ rfl, k 4 _ rfl, k 5 _ rfl, k 6 _ rfl, k 7 _ rfl, k 8 _ rfl⟩
theorem own_grewE {w w' : World} {base : Nat} {e : TypeId} {size n : Nat} {v : Value} {xs : List Value} (h : w.ownsRow base e size v n xs) (g : Grew w w') : w'.ownsRow base e size v n xs := by
  obtain ⟨x, rfl⟩ := g
  exact own_more h x
theorem ExOwn.grew {u w w' : World} {base : Nat} {A : Option Addr} {k : Nat} {l : List Ex} (h : ExOwn u w base A k l) (g : Grew w w') : ExOwn u w' base A k l := by
  obtain ⟨css, h1, h2⟩ := h
  exact ⟨css, h1, own_grewE h2 g⟩
theorem Blok.nine {w : World} {g b p : Nat} {t : TypeId} {cs : Array Value} (h : Blok w g t cs) (hg : g ≠ b) (v0 v1 v2 v3 v4 v5 v6 v7 v8 : Value) :
    Blok (((((((((w.setCell ⟨b, p, none⟩ v0).setCell ⟨b, p + 1, none⟩ v1).setCell ⟨b, p + 2, none⟩ v2).setCell ⟨b, p + 3, none⟩ v3).setCell ⟨b, p + 4, none⟩ v4).setCell ⟨b, p + 5, none⟩ v5).setCell ⟨b, p + 6, none⟩ v6).setCell ⟨b, p + 7, none⟩ v7).setCell ⟨b, p + 8, none⟩ v8) g t cs :=
  ((((((((h.far (p := ⟨b, p, none⟩) hg v0).far (p := ⟨b, p + 1, none⟩) hg v1).far (p := ⟨b, p + 2, none⟩) hg v2).far (p := ⟨b, p + 3, none⟩) hg v3).far (p := ⟨b, p + 4, none⟩) hg v4).far (p := ⟨b, p + 5, none⟩) hg v5).far (p := ⟨b, p + 6, none⟩) hg v6).far (p := ⟨b, p + 7, none⟩) hg v7).far (p := ⟨b, p + 8, none⟩) hg v8
end Go.Proofs.YtajjedgpfeakjaaDoor
