/- Expressions that come in, with what their size in bytes tells. No condition. -/
import Derived.Test.YtbglmcebkpkccaaDoorHead
import Derived.Deep.RegionWith
import Derived.Test.YtbglmcebkpkccaaDoorQT
import Derived.Test.YtbglmcebkpkccaaDoorMuchR
import Derived.Test.YtbglmcebkpkccaaDoorEx
import Derived.Test.YtbglmcebkpkccaaDoorTab

/- A region that draws its order, whose first operations are walked in one order under a condition on the world, the others in every order. No condition. -/
namespace Go.Proofs.YtbglmcebkpkccaaDoor
open Go.RowKit
section
variable {P : Program} {ops : Array Oper} {Q : Exit → Act → World → Prop} {S : World → Prop}
/-- The tail, in whatever order. -/
def TailT (P : Program) (ops : Array Oper) (Q : Exit → Act → World → Prop) (n g : Nat) (listed : Array Bool) (a : Act) (w : World) : Prop :=
  (∀ j ∈ Region.ready .any ops listed, n ≤ j) ∧ wpAny P .any ops Q g listed a w
theorem wp_region_tail (S : World → Prop) (n g : Nat) {id : Nat} {a : Act} {w : World} (hk : ops.size = n + g) (hm : P.follows .mixedOrders = true)
    (h : wpHeadH P .any ops Q S n (TailT P ops Q n g) n (Array.replicate ops.size false) a w.drew) : (Code.region id ops true).wp P Q a w := by
  refine wp_region_any hm ?_
  rw [hk]
  exact wpAny_of_wpHeadH (S := S) (n := n) (T := TailT P ops Q n g) (fun listed a w h => h.2) n _ a _ (by rw [hk] at h; exact h)
/-- Each operation of the tail waits for each one ahead of it. -/
def directB (ops : Array Oper) (n : Nat) : Bool := (List.range ops.size).all fun j => decide (j < n) || match ops[j]? with
  | none => true
  | some oj => (List.range n).all fun i => oj.after.any fun e => Region.binds .any e && e.on == i
theorem direct_waits {n i : Nat} {listed : Array Bool} (hd : directB ops n = true) (hin : i < n) (hun : listed.getD i true = false) (j : Nat) (hj : n ≤ j) : j ∉ Region.ready .any ops listed := by
  intro hm
  obtain ⟨_, oj, hoj, hall⟩ := mem_ready.1 hm
  have hjs : j < ops.size := (Array.getElem?_eq_some_iff.1 hoj).1
  unfold directB at hd
  have h1 := List.all_eq_true.1 hd j (List.mem_range.2 hjs)
  rw [hoj] at h1
  simp only [Bool.or_eq_true, decide_eq_true_eq] at h1
  rcases h1 with h1 | h1
  · omega
  · have h2 := List.all_eq_true.1 h1 i (List.mem_range.2 hin)
    obtain ⟨e, he, h3⟩ := Array.any_eq_true'.1 h2
    simp only [Bool.and_eq_true, beq_iff_eq] at h3
    have h4 := hall e he h3.1
    rw [h3.2, getD_both hun] at h4
    cases h4
theorem wpHeadD_first {T : Array Bool → Act → World → Prop} {n i : Nat} {oi : Oper} {v : Value} (hi : ops[i]? = some oi) (hsel : ∀ (j : Nat) (o : Oper) cs b, ops[j]? = some o → o.op ≠ .select cs b)
    (hd : directB ops n = true) (hin : i < n) (hQ : ∀ c a w, Q (.panic c) (a.put oi.dst v) w → Q (.panic c) a w) (hdone : ∀ listed a w, T listed a w → ∀ j ∈ Region.ready .any ops listed, n ≤ j) :
    ∀ (f : Nat) (listed : Array Bool) (a : Act) (w : World),
      (∀ j oj, ops[j]? = some oj → j ≠ i → listed.getD j true = false → (∀ e ∈ oj.after, Region.binds .any e = true → e.on ≠ i) → oi.apart ops oj = true) →
      i ∈ Region.ready .any ops listed → YieldsIf P ops S oi v a → S w →
      wpHeadH P .any ops Q S n T f (listed.setIfInBounds i true) (a.put oi.dst v) w → wpHeadH P .any ops Q S n T (f + 1) listed a w := by
  intro f
  induction f with
  | zero =>
    intro listed a w _ hr hy hS hT
    have hun := (mem_ready.1 hr).1
    refine ⟨fun h => (by rw [h] at hr; cases hr), fun j hj => ?_⟩
    have hjn : j < n := by
      rcases Nat.lt_or_ge j n with h | h
      · exact h
      · exact absurd hj (direct_waits hd hin hun j h)
    refine ⟨hjn, ?_⟩
    by_cases hji : j = i
    · subst hji; exact hy.wpOp hi hS ⟨hS, hT⟩
    · have := hdone _ _ _ hT j (ready_mono hj hji)
      omega
  | succ f ih =>
    intro listed a w hfree hr hy hS hT
    have hun := (mem_ready.1 hr).1
    refine ⟨fun h => (by rw [h] at hr; cases hr), fun j hj => ?_⟩
    have hjn : j < n := by
      rcases Nat.lt_or_ge j n with h | h
      · exact h
      · exact absurd hj (direct_waits hd hin hun j h)
    refine ⟨hjn, ?_⟩
    by_cases hji : j = i
    · subst hji; exact hy.wpOp hi hS ⟨hS, hT⟩
    · have h1 := (hT.2 j (ready_mono hj hji)).2
      obtain ⟨hjun, oj, hoj, hall⟩ := mem_ready.1 hj
      have hnot : ∀ e ∈ oj.after, Region.binds .any e = true → e.on ≠ i := fun e he hb heq => by
        have h3 := hall e he hb
        rw [heq, getD_both hun] at h3
        cases h3
      have h2 := wpOp_putIf hoj (hfree j oj hoj hji hjun hnot) (fun cs b => hsel i oi cs b hi) (fun cs b => hsel j oj cs b hoj) hQ hy h1
      have hfree' : ∀ k ok, ops[k]? = some ok → k ≠ i → (listed.setIfInBounds j true).getD k true = false →
          (∀ e ∈ ok.after, Region.binds .any e = true → e.on ≠ i) → oi.apart ops ok = true := fun k ok hk hki hu hno => by
        refine hfree k ok hk hki ?_ hno
        by_cases hjk : j = k
        · subst hjk; exact hjun
        · rw [getD_set_ne true hjk] at hu; exact hu
      refine wpOp_mono (fun a' w' h3 => ⟨h3.2.1, ih (listed.setIfInBounds j true) a' w' hfree' (ready_mono hr (Ne.symm hji)) h3.1 h3.2.1 ?_⟩) h2
      rw [Array.setIfInBounds_comm _ _ hji]
      exact h3.2.2
theorem tail_take (i : Nat) {n g : Nat} {oi : Oper} {v : Value} {f : Nat} {listed : Array Bool} {a : Act} {w : World} (hi : ops[i]? = some oi) (hs : Region.noSelect ops = true)
    (hb : (directB ops n && decide (i < n)) = true)
    (hf : Region.free .any ops listed i = true) (hr : (Region.ready .any ops listed).contains i = true)
    (hQ : ∀ c a w, Q (.panic c) (a.put oi.dst v) w → Q (.panic c) a w) (hw : Region.wanted oi (yielded ops a.tmps) = true)
    (hy : ∀ W, S W → (execOp a.eval oi).run P W = .ok (.value v) W) (hS : S w)
    (h : wpHeadH P .any ops Q S n (TailT P ops Q n g) f (listed.setIfInBounds i true) (a.put oi.dst v) w) : wpHeadH P .any ops Q S n (TailT P ops Q n g) (f + 1) listed a w := by
  simp only [Bool.and_eq_true, decide_eq_true_eq] at hb
  obtain ⟨b1, b4⟩ := hb
  exact wpHeadD_first hi (Region.noSelect_spec hs) b1 b4 hQ (fun l a w hT j hj => hT.1 j hj) f listed a w (Region.free_spec hi hf) (by simpa using hr) (Or.inl ⟨hw, hy⟩) hS h
theorem tail_call (i : Nat) {n g : Nat} {o : Oper} {f : Nat} {listed : Array Bool} {a : Act} {w : World} (hr : Region.ready .any ops listed = [i]) (hik : decide (i < n) = true) (ho : ops[i]? = some o) (hw : Region.wanted o (yielded ops a.tmps) = true)
    (h : ∀ K' : Act → World → Prop, Hid (∀ a W, S W → wpHeadH P .any ops Q S n (TailT P ops Q n g) f (listed.setIfInBounds i true) a W → K' a W) → Oper.wp P o a w K' Q) : wpHeadH P .any ops Q S n (TailT P ops Q n g) (f + 1) listed a w := by
  refine ⟨by rw [hr]; simp, fun j hj => ?_⟩
  rw [hr] at hj
  obtain rfl : j = i := by simpa using hj
  refine ⟨by simpa using hik, wpOp_step ho (fun K' hK => ?_)⟩
  rw [if_pos hw]
  exact h K' (Lib.hid fun a W hG hW => hK a W ⟨hG, hW⟩)
/-- Two operations are ready. -/
theorem tail_both (i j : Nat) {n g : Nat} {oi oj : Oper} {f : Nat} {listed : Array Bool} {a : Act} {w : World} (hr : Region.ready .any ops listed = [i, j]) (hin : (decide (i < n) && decide (j < n)) = true) (hoi : ops[i]? = some oi) (hoj : ops[j]? = some oj)
    (hwi : Region.wanted oi (yielded ops a.tmps) = true) (hwj : Region.wanted oj (yielded ops a.tmps) = true)
    (hi : ∀ K' : Act → World → Prop, Hid (∀ a W, S W → wpHeadH P .any ops Q S n (TailT P ops Q n g) f (listed.setIfInBounds i true) a W → K' a W) → Oper.wp P oi a w K' Q)
    (hj : ∀ K' : Act → World → Prop, Hid (∀ a W, S W → wpHeadH P .any ops Q S n (TailT P ops Q n g) f (listed.setIfInBounds j true) a W → K' a W) → Oper.wp P oj a w K' Q) : wpHeadH P .any ops Q S n (TailT P ops Q n g) (f + 1) listed a w := by
  simp only [Bool.and_eq_true, decide_eq_true_eq] at hin
  refine ⟨by rw [hr]; simp, fun m hm => ?_⟩
  rw [hr] at hm
  simp only [List.mem_cons, List.not_mem_nil, or_false] at hm
  rcases hm with rfl | rfl
  · refine ⟨hin.1, wpOp_step hoi (fun K' hK => ?_)⟩
    rw [if_pos hwi]
    exact hi K' (Lib.hid fun a W hG hW => hK a W ⟨hG, hW⟩)
  · refine ⟨hin.2, wpOp_step hoj (fun K' hK => ?_)⟩
    rw [if_pos hwj]
    exact hj K' (Lib.hid fun a W hG hW => hK a W ⟨hG, hW⟩)
theorem tail_norm {n g f : Nat} {listed : Array Bool} {a a' : Act} {w : World} (ha : a = a') (h : wpHeadH P .any ops Q S n (TailT P ops Q n g) f listed a' w) : wpHeadH P .any ops Q S n (TailT P ops Q n g) f listed a w := ha ▸ h
theorem tail_done {n g : Nat} {listed : Array Bool} {a : Act} {w : World} (hr : ((Region.ready .any ops listed).all fun j => decide (n ≤ j)) = true) (h : wpAny P .any ops Q g listed a w) : wpHeadH P .any ops Q S n (TailT P ops Q n g) 0 listed a w := by
  refine ⟨fun j hj => ?_, h⟩
  have := List.all_eq_true.1 hr j hj
  exact of_decide_eq_true this
end
end Go.Proofs.YtbglmcebkpkccaaDoor

/- Layer 8: the columns of an expression. Condition: expressions that lie in memory that is there. -/
namespace Go.Proofs.YtbglmcebkpkccaaDoor
open Go.RowKit
attribute [local go_sem] more_cell more_frozen more_more more_setCell more_of_drew more_of_drewN lt_more le_more past_cell past_cell2 past_frozen past_frozen2 past_setCell past_setCell2 mid_cell mid_frozen mid_setCell
attribute [local go_sem ↓] Go.wp_at_zero Go.wp_at_succ

mutual
/-- Its columns, from the left on. -/
def Ex.cols : Ex → List Ex
  | .mk op tab name t c vk vi vs l => if op = 15 then [.mk op tab name t c vk vi vs l] else colsE l
def colsE : List Ex → List Ex
  | [] => []
  | x :: l => x.cols ++ colsE l
end
theorem cols_in {x : Ex} (h : x.op = 15) : x.cols = [x] := by cases x; simp only [Ex.op] at h; simp only [Ex.cols, if_pos h]
theorem cols_out {x : Ex} (h : ¬ x.op = 15) : x.cols = colsE x.l := by cases x; simp only [Ex.op] at h; simp only [Ex.cols, if_neg h, Ex.l]
theorem colsE_append (l m : List Ex) : colsE (l ++ m) = colsE l ++ colsE m := by
  induction l with
  | nil => simp [colsE]
  | cons x l ih => simp only [List.cons_append, colsE, ih, List.append_assoc]
theorem colsE_take {l : List Ex} {i : Nat} (h : i < l.length) : colsE (l.take (i + 1)) = colsE (l.take i) ++ l[i].cols := by
  rw [List.take_succ_eq_append_getElem h, colsE_append]
  simp [colsE]
theorem cols_len (x : Ex) : x.cols.length ≤ x.nodes := by
  refine ex_ind (P := fun x => x.cols.length ≤ x.nodes) (fun x ih => ?_) x
  by_cases h : x.op = 15
  · rw [cols_in h]
    exact nodes_pos x
  · rw [cols_out h, nodes_eq]
    have : ∀ l : List Ex, (∀ y ∈ l, y.cols.length ≤ y.nodes) → (colsE l).length ≤ nodesL l := by
      intro l
      induction l with
      | nil => intro _; simp [colsE]
      | cons y l ih =>
        intro h
        have h1 := h y (by simp)
        have h2 := ih fun z hz => h z (by simp [hz])
        simp only [colsE, nodesL, List.length_append]
        omega
    have := this x.l ih
    omega
theorem infoE : (Tryd.prog.info? 27).map (fun i => (i.zero, i.size, i.bytes)) = some (some (.agg #[.int .i64 0, .string ⟨#[]⟩, .string ⟨#[]⟩, .int .i64 0, .int .i64 0, .int .i64 0, .int .i64 0, .string ⟨#[]⟩, .slice none 0 0]), 9, 112) := by kernel_rfl
/-- Expressions of one's own, one by one: their cells lie in a row from a block on; what is in them lies in memory that was there. -/
def ExOwn (u w : World) (base : Nat) (A : Option Addr) (c : Nat) (l : List Ex) : Prop := ∃ css, ListR (ExR (PRow u)) 9 l css ∧ w.ownsRow base 27 9 (.slice A l.length c) l.length css.flatten
theorem exC_one (x : Ex) (A : Option Addr) (k : Nat) : ∀ u ∈ exC x A k, u.oneCell' = true := by
  intro u hu
  simp only [exC, List.mem_cons, List.not_mem_nil, or_false] at hu
  rcases hu with rfl | rfl | rfl | rfl | rfl | rfl | rfl | rfl | rfl <;> rfl
theorem listR_one {R : Rw} {l : List Ex} {css : List (List Value)} (h : ListR (ExR R) 9 l css) : ∀ u ∈ css.flatten, u.oneCell' = true := by
  intro u hu
  obtain ⟨cs, hc, hucs⟩ := List.mem_flatten.1 hu
  obtain ⟨i, hi, rfl⟩ := List.getElem_of_mem hc
  obtain ⟨A, k, he, _⟩ := (h.2 i (l[i]'(by rw [← h.1]; exact hi)) _ (List.getElem?_eq_getElem _) (List.getElem?_eq_getElem hi)).1.parts
  rw [he] at hucs
  exact exC_one _ _ _ u hucs
theorem listR_append {R : Rw} {l m : List Ex} {css dss : List (List Value)} (h : ListR (ExR R) 9 l css) (k : ListR (ExR R) 9 m dss) : ListR (ExR R) 9 (l ++ m) (css ++ dss) := by
  refine ⟨by simp [h.1, k.1], fun i x cs h1 h2 => ?_⟩
  rcases Nat.lt_or_ge i l.length with hi | hi
  · rw [List.getElem?_append_left hi] at h1
    rw [List.getElem?_append_left (by rw [h.1]; exact hi)] at h2
    exact h.2 i x cs h1 h2
  · rw [List.getElem?_append_right hi] at h1
    rw [List.getElem?_append_right (by rw [h.1]; exact hi), h.1] at h2
    exact k.2 _ x cs h1 h2
theorem listR_single {R : Rw} {x : Ex} {A : Option Addr} (h : ExsR R A x.l) (k : Nat) : ListR (ExR R) 9 [x] [exC x A k] := by
  have := (ListR.nil (R := ExR R) (size := 9)).snoc (ExR.make h k) rfl
  simpa using this
theorem ExOwn.exs {u w : World} {base : Nat} {A : Option Addr} {c : Nat} {l : List Ex} (h : ExOwn u w base A c l) (g : Grew u w) : ExsR (PRow w) A l := by
  obtain ⟨css, h1, h2⟩ := h
  obtain ⟨A', c', e, h3⟩ := own_row h2
  injection e with e _ _
  subst e
  exact ⟨css, h1.map fun x cs hx => hx.grew g, h3⟩
/-- A row of whole structs that was just made. -/
theorem own_lit (w : World) (base : Nat) (e : TypeId) (size n b : Nat) (cs : Array Value) (hb : b = w.heap.size) (h : base ≤ b) (hs : cs.size = n * size) (hn : n ≤ 1000000) : (w.alloc (.cells cs e)).ownsRow base e size (.slice (some ⟨b, 0, none⟩) n n) n cs.toList := by
  subst hb
  exact ⟨by simpa using hs, Or.inr ⟨w.heap.size, n, cs, rfl, h, heap_alloc_new w _, Nat.le_refl _, by unfold maxLen; omega, by rw [hs], by rw [List.take_of_length_le (by simp [hs])]⟩⟩
theorem set9 (xs : List Value) (p : Nat) (z0 z1 z2 z3 z4 z5 z6 z7 z8 v0 v1 v2 v3 v4 v5 v6 v7 v8 : Value) (hp : xs.length = p) :
    ((((((((((xs ++ [z0, z1, z2, z3, z4, z5, z6, z7, z8]).set p v0).set (p + 1) v1).set (p + 2) v2).set (p + 3) v3).set (p + 4) v4).set (p + 5) v5).set (p + 6) v6).set (p + 7) v7).set (p + 8) v8) = xs ++ [v0, v1, v2, v3, v4, v5, v6, v7, v8] := by
  subst hp
  have h : ∀ (ys : List Value) (j : Nat) (v : Value), (xs ++ ys).set (xs.length + j) v = xs ++ ys.set j v := fun ys j v => by
    rw [List.set_append_right _ _ (by omega)]
    congr 2
    omega
  have h0 := h [z0, z1, z2, z3, z4, z5, z6, z7, z8] 0 v0
  rw [Nat.add_zero] at h0
  rw [h0, h, h, h, h, h, h, h, h]
  rfl
/-- A struct of nine cells is stored in its place. -/
theorem own_nine {w : World} {base g n cap p : Nat} {e : TypeId} {xs : List Value} {z0 z1 z2 z3 z4 z5 z6 z7 z8 : Value} (h : w.ownsRow base e 9 (.slice (some ⟨g, 0, none⟩) n cap) n (xs ++ [z0, z1, z2, z3, z4, z5, z6, z7, z8])) (hp : xs.length = p) (v0 v1 v2 v3 v4 v5 v6 v7 v8 : Value) :
    (((((((((w.setCell ⟨g, p, none⟩ v0).setCell ⟨g, p + 1, none⟩ v1).setCell ⟨g, p + 2, none⟩ v2).setCell ⟨g, p + 3, none⟩ v3).setCell ⟨g, p + 4, none⟩ v4).setCell ⟨g, p + 5, none⟩ v5).setCell ⟨g, p + 6, none⟩ v6).setCell ⟨g, p + 7, none⟩ v7).setCell ⟨g, p + 8, none⟩ v8).ownsRow base e 9 (.slice (some ⟨g, 0, none⟩) n cap) n (xs ++ [v0, v1, v2, v3, v4, v5, v6, v7, v8]) := by
  have := ((((((((((h.stored p v0).1.stored (p + 1) v1).1.stored (p + 2) v2).1.stored (p + 3) v3).1.stored (p + 4) v4).1.stored (p + 5) v5).1.stored (p + 6) v6).1.stored (p + 7) v7).1.stored (p + 8) v8).1)
  rw [set9 xs p _ _ _ _ _ _ _ _ _ _ _ _ _ _ _ _ _ _ hp] at this
  exact this
theorem cells_nine {w : World} {base g n cap p : Nat} {e : TypeId} {xs : List Value} {z0 z1 z2 z3 z4 z5 z6 z7 z8 : Value} (h : w.ownsRow base e 9 (.slice (some ⟨g, 0, none⟩) n cap) n (xs ++ [z0, z1, z2, z3, z4, z5, z6, z7, z8])) (hp : xs.length = p) (hn : p + 9 = n * 9) :
    w.cell? ⟨g, p, none⟩ = some z0 ∧ w.cell? ⟨g, p + 1, none⟩ = some z1 ∧ w.cell? ⟨g, p + 2, none⟩ = some z2 ∧ w.cell? ⟨g, p + 3, none⟩ = some z3 ∧ w.cell? ⟨g, p + 4, none⟩ = some z4 ∧ w.cell? ⟨g, p + 5, none⟩ = some z5 ∧ w.cell? ⟨g, p + 6, none⟩ = some z6 ∧ w.cell? ⟨g, p + 7, none⟩ = some z7 ∧ w.cell? ⟨g, p + 8, none⟩ = some z8 := by
  have k : ∀ j u, [z0, z1, z2, z3, z4, z5, z6, z7, z8][j]? = some u → w.cell? ⟨g, p + j, none⟩ = some u := fun j u hu => by
    have hj : j < 9 := by
      rcases Nat.lt_or_ge j 9 with h | h
      · exact h
      · rw [List.getElem?_eq_none (by simpa using h)] at hu; cases hu
    rw [h.cellAt (p + j) (by omega), List.getElem?_append_right (by omega), hp, Nat.add_sub_cancel_left]
    exact hu
  exact ⟨k 0 _ rfl, k 1 _ rfl, k 2 _ rfl, k 3 _ rfl, k 4 _ rfl, k 5 _ rfl, k 6 _ rfl, k 7 _ rfl, k 8 _ rfl⟩
theorem own_grewE {w w' : World} {base : Nat} {e : TypeId} {size n : Nat} {v : Value} {xs : List Value} (h : w.ownsRow base e size v n xs) (g : Grew w w') : w'.ownsRow base e size v n xs := by
  obtain ⟨x, rfl⟩ := g
  exact own_more h x
theorem ExOwn.grew {u w w' : World} {base : Nat} {A : Option Addr} {k : Nat} {l : List Ex} (h : ExOwn u w base A k l) (g : Grew w w') : ExOwn u w' base A k l := by
  obtain ⟨css, h1, h2⟩ := h
  exact ⟨css, h1, own_grewE h2 g⟩
theorem Blok.nine {w : World} {g b p : Nat} {t : TypeId} {cs : Array Value} (h : Blok w g t cs) (hg : g ≠ b) (v0 v1 v2 v3 v4 v5 v6 v7 v8 : Value) :
    Blok (((((((((w.setCell ⟨b, p, none⟩ v0).setCell ⟨b, p + 1, none⟩ v1).setCell ⟨b, p + 2, none⟩ v2).setCell ⟨b, p + 3, none⟩ v3).setCell ⟨b, p + 4, none⟩ v4).setCell ⟨b, p + 5, none⟩ v5).setCell ⟨b, p + 6, none⟩ v6).setCell ⟨b, p + 7, none⟩ v7).setCell ⟨b, p + 8, none⟩ v8) g t cs :=
  ((((((((h.far (p := ⟨b, p, none⟩) hg v0).far (p := ⟨b, p + 1, none⟩) hg v1).far (p := ⟨b, p + 2, none⟩) hg v2).far (p := ⟨b, p + 3, none⟩) hg v3).far (p := ⟨b, p + 4, none⟩) hg v4).far (p := ⟨b, p + 5, none⟩) hg v5).far (p := ⟨b, p + 6, none⟩) hg v6).far (p := ⟨b, p + 7, none⟩) hg v7).far (p := ⟨b, p + 8, none⟩) hg v8
end Go.Proofs.YtbglmcebkpkccaaDoor

/- Layer 8: the columns of an expression; the page's example. Condition: expressions that lie in memory that is there. -/
namespace Go.Proofs.YtbglmcebkpkccaaDoor
open Go.RowKit
attribute [local go_sem] more_cell more_frozen more_more more_setCell more_of_drew more_of_drewN lt_more le_more past_cell past_cell2 past_frozen past_frozen2 past_setCell past_setCell2 mid_cell mid_frozen mid_setCell
attribute [local go_sem ↓] Go.wp_at_zero Go.wp_at_succ

/-- Expressions are handed back. -/
def ExsF (w : World) (l : List Ex) (e : Ending) (w' : World) : Prop := ∃ A k, e = .returned (.slice A l.length k) ∧ Grew w w' ∧ ExsR (PRow w') A l
end Go.Proofs.YtbglmcebkpkccaaDoor

/- Layer 8: expressions that are made; the page's example; what is more than is asked. Condition: expressions that lie in memory that is there. -/
namespace Go.Proofs.YtbglmcebkpkccaaDoor
open Go.RowKit
attribute [local go_sem] more_cell more_frozen more_more more_setCell more_of_drew more_of_drewN lt_more le_more past_cell past_cell2 past_frozen past_frozen2 past_setCell past_setCell2 mid_cell mid_frozen mid_setCell
attribute [local go_sem ↓] Go.wp_at_zero Go.wp_at_succ

theorem much8_any (x : Ex) (A : Option Addr) (k : Nat) (w : World) (ra : ExsR (PRow w) A x.l) : Calls Tryd.prog 11 #[exV x A k] w (MuchR w (x.nodes ≤ 200)) := by
  have HC : Hid (∀ W, Grew w W → Calls Tryd.prog 26 #[exV x A k, .int .i64 ((400 : Nat) : Int)] W (CountR W x 400)) := Lib.hid fun W hW => count_any _ x (Nat.lt_succ_self _) A k 400 (by omega) (by omega) W (ra.grew hW)
  clear ra
  unfold exV at *
  go_enter Tryd.func11, Tryd.ntmps11
  go_wp2_with fail
  refine (HC.out _ ((Grew.refl w).alloc _)).mono ?_
  rintro e w2 ⟨m, rfl, hg2, h1, h2, h3⟩
  have HG2 : Hid (Grew w w2) := Lib.hid (((Grew.refl w).alloc _).trans hg2)
  have HM : Hid (m < 400 → x.nodes = m) := Lib.hid h3
  clear hg2 h3
  go_wp2
  go_ret
  exact muchR_dec (c := (200 : Int) < m) HG2.out (fun hc => by have := HM.out (by omega); omega)
def es : ByteArray := ⟨#[]⟩
theorem exs_none {R : Rw} (hR : ∀ e xs, R e none xs → xs = []) {l : List Ex} (h : ExsR R none l) : l = [] := by
  obtain ⟨css, h1, h2⟩ := h
  have e := h1.flat
  rw [hR _ _ h2] at e
  simp at e
  exact List.eq_nil_of_length_eq_zero (by omega)
theorem prow_none {w : World} (e : TypeId) (xs : List Value) (h : PRow w e none xs) : xs = [] := by
  rcases h with h | ⟨b, o, hA, _⟩
  · exact h
  · cases hA
@[local go_sem] theorem eql_nilE (w : World) (a : Option Addr) (n c : Nat) : (binOp .eql 22 (.slice a n c) (.slice none 0 0)).run Tryd.prog w = .ok (.bool a.isNone) w := Lib.run_eql_slice_nil w _ _ a n c 0 0 Tryd.underlying22
/-- A copy of expressions is handed back: in a row of one's own. -/
def OwnF (u w : World) (l : List Ex) (e : Ending) (w' : World) : Prop := ∃ A k, e = .returned (.slice A l.length k) ∧ Grew w w' ∧ ExOwn u w' w.heap.size A k l
/-- An expression that was made is handed back. -/
def ExF (w : World) (x : Ex) (e : Ending) (w' : World) : Prop := ∃ A k, e = .returned (exV x A k) ∧ Grew w w' ∧ ExsR (PRow w') A x.l
theorem grew_nine {u w : World} {b p : Nat} (h : Grew u w) (ha : u.heap.size ≤ b) (v0 v1 v2 v3 v4 v5 v6 v7 v8 : Value) :
    Grew u (((((((((w.setCell ⟨b, p, none⟩ v0).setCell ⟨b, p + 1, none⟩ v1).setCell ⟨b, p + 2, none⟩ v2).setCell ⟨b, p + 3, none⟩ v3).setCell ⟨b, p + 4, none⟩ v4).setCell ⟨b, p + 5, none⟩ v5).setCell ⟨b, p + 6, none⟩ v6).setCell ⟨b, p + 7, none⟩ v7).setCell ⟨b, p + 8, none⟩ v8) :=
  ((((((((h.setCell (a := ⟨b, p, none⟩) ha v0).setCell (a := ⟨b, p + 1, none⟩) ha v1).setCell (a := ⟨b, p + 2, none⟩) ha v2).setCell (a := ⟨b, p + 3, none⟩) ha v3).setCell (a := ⟨b, p + 4, none⟩) ha v4).setCell (a := ⟨b, p + 5, none⟩) ha v5).setCell (a := ⟨b, p + 6, none⟩) ha v6).setCell (a := ⟨b, p + 7, none⟩) ha v7).setCell (a := ⟨b, p + 8, none⟩) ha v8
theorem own_below_nine {w : World} {base : Nat} {e : TypeId} {size n b p : Nat} {v : Value} {xs : List Value} (h : w.ownsRow base e size v n xs) (hb : b < base) (v0 v1 v2 v3 v4 v5 v6 v7 v8 : Value) :
    (((((((((w.setCell ⟨b, p, none⟩ v0).setCell ⟨b, p + 1, none⟩ v1).setCell ⟨b, p + 2, none⟩ v2).setCell ⟨b, p + 3, none⟩ v3).setCell ⟨b, p + 4, none⟩ v4).setCell ⟨b, p + 5, none⟩ v5).setCell ⟨b, p + 6, none⟩ v6).setCell ⟨b, p + 7, none⟩ v7).setCell ⟨b, p + 8, none⟩ v8).ownsRow base e size v n xs := by
  repeat refine ownsRow_setCell_below ?_ (by exact hb) _
  exact h
theorem blok_nine {w : World} {b : Nat} {t : TypeId} {z0 z1 z2 z3 z4 z5 z6 z7 z8 : Value} (h : Blok w b t #[z0, z1, z2, z3, z4, z5, z6, z7, z8]) (v0 v1 v2 v3 v4 v5 v6 v7 v8 : Value) :
    Blok (((((((((w.setCell ⟨b, 0, none⟩ v0).setCell ⟨b, 1, none⟩ v1).setCell ⟨b, 2, none⟩ v2).setCell ⟨b, 3, none⟩ v3).setCell ⟨b, 4, none⟩ v4).setCell ⟨b, 5, none⟩ v5).setCell ⟨b, 6, none⟩ v6).setCell ⟨b, 7, none⟩ v7).setCell ⟨b, 8, none⟩ v8) b t #[v0, v1, v2, v3, v4, v5, v6, v7, v8] := by
  have := ((((((((h.set 0 v0).set 1 v1).set 2 v2).set 3 v3).set 4 v4).set 5 v5).set 6 v6).set 7 v7).set 8 v8
  simpa using this
theorem blok9c {w : World} {b : Nat} {t : TypeId} {z0 z1 z2 z3 z4 z5 z6 z7 z8 : Value} (h : Blok w b t #[z0, z1, z2, z3, z4, z5, z6, z7, z8]) :
    b < w.heap.size ∧ w.cell? ⟨b, 0, none⟩ = some z0 ∧ w.cell? ⟨b, 1, none⟩ = some z1 ∧ w.cell? ⟨b, 2, none⟩ = some z2 ∧ w.cell? ⟨b, 3, none⟩ = some z3 ∧ w.cell? ⟨b, 4, none⟩ = some z4 ∧ w.cell? ⟨b, 5, none⟩ = some z5 ∧ w.cell? ⟨b, 6, none⟩ = some z6 ∧ w.cell? ⟨b, 7, none⟩ = some z7 ∧ w.cell? ⟨b, 8, none⟩ = some z8 :=
  ⟨h.lt, h.cell 0, h.cell 1, h.cell 2, h.cell 3, h.cell 4, h.cell 5, h.cell 6, h.cell 7, h.cell 8⟩
theorem exs_nil (w : World) : ExsR (PRow w) none [] := ⟨[], ListR.nil, Or.inl rfl⟩
/-- The page's example. -/
def live8E : Ex := .mk 7 es es 0 0 0 0 es [.mk 15 ⟨#[97]⟩ ⟨#[120]⟩ 0 0 0 0 es [], .mk 16 es es 0 0 1 1 es []]
theorem live8_nodes : live8E.nodes = 3 := by simp [live8E, Ex.nodes, nodesL]
theorem live8_depth : live8E.depth = 2 := by simp [live8E, Ex.depth, depthL]
theorem live8_cols : live8E.cols.length = 1 := by simp [live8E, Ex.cols, colsE]
theorem live8_level : levelI live8E.op = 5 := by decide
end Go.Proofs.YtbglmcebkpkccaaDoor

namespace Go.Proofs.YtbglmcebkpkccaaDoor
open Go.RowKit Go.ChangeShapes Go.WideShapes Go.ChangeAt

/-- No part takes more than the reach, and numbers are numbers. -/
inductive ExOk : Ex → Prop
  | mk (x : Ex) (h0 : (Lit.int .i64 x.op).wf = true) (h1 : x.tab.size ≤ 140737488355328) (h2 : x.name.size ≤ 140737488355328) (h3 : (Lit.int .i64 x.t).wf = true) (h4 : (Lit.int .i64 x.c).wf = true) (h5 : VlOk ⟨x.vk, x.vi, x.vs⟩)
      (h6 : x.l.length ≤ 140737488355328) (h7 : ∀ y ∈ x.l, ExOk y) : ExOk x
def ExsOk (l : List Ex) : Prop := l.length ≤ 140737488355328 ∧ ∀ y ∈ l, ExOk y
theorem ExOk.parts {x : Ex} (h : ExOk x) : ExsOk x.l := by
  obtain ⟨_, _, _, _, _, _, _, h6, h7⟩ := h
  exact ⟨h6, h7⟩
theorem ExOk.val {x : Ex} (h : ExOk x) : VlOk ⟨x.vk, x.vi, x.vs⟩ := by
  obtain ⟨_, _, _, _, _, _, h5, _, _⟩ := h
  exact h5
section
variable {H : Type} {enc : TypeId × Value → H} {P : Program} {W : World}
/-- A slice, whose elements are read with less. -/
theorem open_lessW {α : Type} [Inhabited α] {R : α → List Value → Prop} {t e : TypeId} {size n : Nat} {cs : List Value} {y : DataW H × List MemPlace} (ht : P.underlying t = some (.slice e)) (hs : 0 < size) (hce : P.cellsOf e = size)
    (hone : ∀ (m : Nat) (cs : List Value) (y : DataW H × List MemPlace), m < n → cs.length = size → DataW.trod enc P W 0 (fun _ => true) true m e cs = some y → okW P e y.1 → ∃ x, R x cs)
    (h : DataW.trod enc P W 0 (fun _ => true) true n t cs = some y) (ho : okW P t y.1) : ∃ (l : List α) (A : Option Addr) (c : Nat) (css : List (List Value)), cs = [.slice A l.length c] ∧ l.length ≤ c ∧ c * P.bytesOf e ≤ reachBytes ∧ ListR R size l css ∧ Row W A css.flatten := by
  rcases DataW.trod_slice ht h with ⟨rfl, rfl⟩ | ⟨a, len, cap, elems, rest, m, hn, rfl, rfl, hb, hlc, hm, hlen, hel, hsp, hns⟩
  · exact ⟨[], none, 0, [], rfl, Nat.le_refl _, by simp, ListR.nil, Or.inl rfl⟩
  · simp only [okW, DataW.weights, ht, List.all_cons, List.all_append, Bool.and_eq_true, decide_eq_true_eq, List.length_map] at ho
    obtain ⟨ho1, ho2, _⟩ := ho
    have hrest : rest.length = cap - len := (hsp rfl).1
    obtain ⟨C, hC⟩ := Go.Deep.choose_lt (α := List Value) (n := len) (p := fun i ds => W.cells? 0 (a.add (i * P.cellsOf e)) (P.cellsOf e) = some ds ∧ ∃ y, DataW.trod enc P W 0 (fun _ => true) true m e ds = some y ∧ okW P e y.1) (fun i hi => by
      have h1 := hel i hi
      rw [List.getElem?_eq_getElem (by omega)] at h1
      obtain ⟨ds, h2, h3⟩ := Option.bind_eq_some_iff.1 h1
      exact ⟨ds, h2, _, h3, okW_all ho2 (i := i) (by rw [List.getElem?_map, List.getElem?_eq_getElem (by omega)]; rfl)⟩)
    have hlenC : ∀ i, i < len → (C i).length = size := fun i hi => by rw [← hce]; exact (World.cells?_some (hC i hi).1).2.1
    obtain ⟨X, hX⟩ := Go.Deep.choose_lt (α := α) (n := len) (p := fun i x => R x (C i)) (fun i hi => by
      obtain ⟨y, hy, hy2⟩ := (hC i hi).2
      exact hone m _ _ (by omega) (hlenC i hi) hy hy2)
    refine ⟨(List.range len).map X, some a, cap, (List.range len).map C, by simp, by simpa using hlc, ?_, ⟨by simp, fun i x ds hi hd => ?_⟩, ?_⟩
    · rw [hlen, hrest, show len + (cap - len) = cap by omega] at ho1
      exact ho1
    · have hlt : i < len := by
        rcases Nat.lt_or_ge i len with h | h
        · exact h
        · rw [List.getElem?_eq_none (by simpa using h)] at hi; cases hi
      simp [hlt] at hi hd
      subst hi hd
      exact ⟨hX i hlt, hlenC i hlt⟩
    · by_cases h0 : len = 0
      · subst h0
        exact Or.inl (by simp)
      · have hcell : ∀ i, i < len → ∀ j u, (C i)[j]? = some u → W.cell? (a.add (i * size + j)) = some u := by
          intro i hi j u hu
          obtain ⟨_, h2, h3⟩ := World.cells?_some (hC i hi).1
          have hj : j < P.cellsOf e := by
            rcases Nat.lt_or_ge j (P.cellsOf e) with h | h
            · exact h
            · rw [List.getElem?_eq_none (by omega)] at hu; cases hu
          have := h3 j hj
          rw [Go.Deep.add_add] at this
          rw [← hce, this, hu]
        have hG : Grid W (some a) size ((List.range len).map C) := by
          obtain ⟨b, off, path⟩ := a
          obtain ⟨u0, hu0⟩ : ∃ u, (C 0)[0]? = some u := ⟨_, List.getElem?_eq_getElem (by rw [hlenC 0 (by omega)]; exact hs)⟩
          have h1 := hcell 0 (by omega) 0 u0 hu0
          have hp : path = none := by simpa [Addr.add] using World.cell?_spot h1
          subst hp
          refine Or.inr ⟨b, off, rfl, ?_, fun i ds hi j u hu => ?_⟩
          · have := cell_lt h1
            simpa [Addr.add] using this
          · have hlt : i < len := by
              rcases Nat.lt_or_ge i len with h | h
              · exact h
              · rw [List.getElem?_eq_none (by simpa using h)] at hi; cases hi
            simp [hlt] at hi
            subst hi
            have := hcell i hlt j u hu
            rw [add_plain] at this
            exact this
        refine hG.row hs fun ds hd => ?_
        obtain ⟨i, hi, rfl⟩ := List.mem_map.1 hd
        exact hlenC i (by simpa using hi)
theorem ex_closeW {R : Rw} {cs : List Value} {op t c vk vi : Int} {tab name vs : ByteArray} {l : List Ex} {A : Option Addr} {k : Nat} (hl : cs.length = 9)
    (h0 : (cs.drop 0).take 1 = [.int .i64 op]) (h1 : (cs.drop 1).take 1 = [.string tab]) (h2 : (cs.drop 2).take 1 = [.string name]) (h3 : (cs.drop 3).take 1 = [.int .i64 t]) (h4 : (cs.drop 4).take 1 = [.int .i64 c])
    (h5 : (cs.drop 5).take 3 = [.int .i64 vk, .int .i64 vi, .string vs]) (h8 : (cs.drop 8).take 1 = [.slice A l.length k]) (hr : ExsR R A l) : ExR R (.mk op tab name t c vk vi vs l) cs := by
  obtain ⟨b0, b1, b2, b3, b4, b5, b6, b7, b8, rfl⟩ := nine_of hl
  simp only [List.drop_zero, List.drop_succ_cons, List.take_succ_cons, List.take_zero, List.cons.injEq, and_true] at h0 h1 h2 h3 h4 h5 h8
  obtain ⟨rfl, rfl, rfl⟩ := h5
  subst h0 h1 h2 h3 h4 h8
  exact ExR.make (x := .mk op tab name t c vk vi vs l) hr k
/-- What a reading of an expression tells. -/
theorem rdw_ex : RdW enc Tryd.prog W 27 9 (fun (x : Ex) cs => ExR (PRow W) x cs ∧ ExOk x) := by
  refine ⟨by kernel_rfl, fun n => ?_⟩
  induction n using Nat.strongRecOn with
  | ind n ih =>
    intro cs y hl h ho
    obtain ⟨op, h0, w0⟩ := rdw_part (i := 0) (o := 0) Tryd.underlying27 rfl rfl rdw_iT (by rw [hl]; decide) h ho
    obtain ⟨tab, h1, w1⟩ := rdw_part (i := 1) (o := 1) Tryd.underlying27 rfl rfl rdw_sT (by rw [hl]; decide) h ho
    obtain ⟨name, h2, w2⟩ := rdw_part (i := 2) (o := 2) Tryd.underlying27 rfl rfl rdw_sT (by rw [hl]; decide) h ho
    obtain ⟨t, h3, w3⟩ := rdw_part (i := 3) (o := 3) Tryd.underlying27 rfl rfl rdw_iT (by rw [hl]; decide) h ho
    obtain ⟨c, h4, w4⟩ := rdw_part (i := 4) (o := 4) Tryd.underlying27 rfl rfl rdw_iT (by rw [hl]; decide) h ho
    obtain ⟨⟨vk, vi, vs⟩, h5, w5⟩ := rdw_part (i := 5) (o := 5) Tryd.underlying27 rfl rfl rdw_vl (by rw [hl]; decide) h ho
    unfold VlR at h5
    simp only at h5
    obtain ⟨xs, m, hn, hy, hcl, hxl, hx⟩ := DataW.trod_struct Tryd.underlying27 h
    have h8 := hx 6 _ rfl
    have h6l : 6 < xs.length := by rw [hxl]; decide
    rw [List.getElem?_eq_getElem h6l] at h8
    have ho2 := ho
    rw [hy] at ho2
    simp only [okW, DataW.weights, Tryd.underlying27] at ho2
    have ho6 : okW Tryd.prog 22 xs[6].1 := okW_each ho2 (i := 6) rfl (by simp [h6l])
    obtain ⟨l, A, k, css, h9, hlk, hkr, h10, h11⟩ := open_lessW (R := fun (x : Ex) cs => ExR (PRow W) x cs ∧ ExOk x) (size := 9) Tryd.underlying22 (by decide) (by kernel_rfl) (fun j cs y hj hl hy ho => ih j (by omega) cs y hl hy ho) h8 ho6
    have hc1 : Tryd.prog.cellsOf 22 = 1 := by kernel_rfl
    have hb1 : Tryd.prog.bytesOf 27 = 112 := by kernel_rfl
    have h9' : (cs.drop 8).take (Tryd.prog.cellsOf 22) = [.slice A l.length k] := h9
    rw [hc1] at h9'
    rw [hb1] at hkr
    refine ⟨_, ex_closeW hl h0 h1 h2 h3 h4 h5 h9' ⟨css, h10.each.1, h11⟩, ?_⟩
    have := reach_small
    exact .mk _ w0 (Nat.le_trans w1 this) (Nat.le_trans w2 this) w3 w4 w5 (cap_small hlk (by decide) hkr) h10.each.2
theorem rdw_exs : RdW enc Tryd.prog W 22 1 (fun (x : List Ex) cs => (∃ A c, cs = [.slice A x.length c] ∧ x.length ≤ c ∧ ExsR (PRow W) A x) ∧ ExsOk x) :=
  rdw_map (rdw_slice Tryd.underlying22 (by kernel_rfl) (by decide) (bytes := 112) (by kernel_rfl) rdw_ex) fun l cs ⟨A, c, css, h1, h2, _, h4, h5, h6⟩ =>
    ⟨⟨A, c, h1, h2, css, h5.each.1, h6⟩, cap_small h2 (by decide) h4, h5.each.2⟩
end
end Go.Proofs.YtbglmcebkpkccaaDoor
