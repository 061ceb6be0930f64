/- Layer 8: the columns of an expression. Condition: expressions that lie in memory that is there. -/
import Derived.Test.YtoaciliojdaoaaaTree7
import Derived.Test.YtoaciliojdaoaaaTail
namespace Go.Proofs.Ytoaciliojdaoaaa
open Go.RowKit
attribute [local go_sem] more_cell more_frozen more_more more_setCell more_of_drew more_of_drewN lt_more le_more past_cell past_cell2 past_frozen past_frozen2 past_setCell past_setCell2 mid_cell mid_frozen mid_setCell
attribute [local go_sem ↓] Go.wp_at_zero Go.wp_at_succ

mutual
/-- Its columns, from the left on. -/
def Ex.cols : Ex → List Ex
  | .mk op tab name t c vk vi vs l => if op = 15 then [.mk op tab name t c vk vi vs l] else colsE l
def colsE : List Ex → List Ex
  | [] => []
  | x :: l => x.cols ++ colsE l
end
theorem cols_in {x : Ex} (h : x.op = 15) : x.cols = [x] := by cases x; simp only [Ex.op] at h; simp only [Ex.cols, if_pos h]
theorem cols_out {x : Ex} (h : ¬ x.op = 15) : x.cols = colsE x.l := by cases x; simp only [Ex.op] at h; simp only [Ex.cols, if_neg h, Ex.l]
theorem colsE_append (l m : List Ex) : colsE (l ++ m) = colsE l ++ colsE m := by
  induction l with
  | nil => simp [colsE]
  | cons x l ih => simp only [List.cons_append, colsE, ih, List.append_assoc]
theorem colsE_take {l : List Ex} {i : Nat} (h : i < l.length) : colsE (l.take (i + 1)) = colsE (l.take i) ++ l[i].cols := by
  rw [List.take_succ_eq_append_getElem h, colsE_append]
  simp [colsE]
theorem cols_len (x : Ex) : x.cols.length ≤ x.nodes := by
  refine ex_ind (P := fun x => x.cols.length ≤ x.nodes) (fun x ih => ?_) x
  by_cases h : x.op = 15
  · rw [cols_in h]
    exact nodes_pos x
  · rw [cols_out h, nodes_eq]
    have : ∀ l : List Ex, (∀ y ∈ l, y.cols.length ≤ y.nodes) → (colsE l).length ≤ nodesL l := by
      intro l
      induction l with
      | nil => intro _; simp [colsE]
      | cons y l ih =>
        intro h
        have h1 := h y (by simp)
        have h2 := ih fun z hz => h z (by simp [hz])
        simp only [colsE, nodesL, List.length_append]
        omega
    have := this x.l ih
    omega
theorem infoE : (Try.prog.info? 27).map (fun i => (i.zero, i.size, i.bytes)) = some (some (.agg #[.int .i64 0, .string ⟨#[]⟩, .string ⟨#[]⟩, .int .i64 0, .int .i64 0, .int .i64 0, .int .i64 0, .string ⟨#[]⟩, .slice none 0 0]), 9, 112) := by kernel_rfl
/-- Expressions of one's own, one by one: their cells lie in a row from a block on; what is in them lies in memory that was there. -/
def ExOwn (u w : World) (base : Nat) (A : Option Addr) (c : Nat) (l : List Ex) : Prop := ∃ css, ListR (ExR (PRow u)) 9 l css ∧ w.ownsRow base 27 9 (.slice A l.length c) l.length css.flatten
theorem exC_one (x : Ex) (A : Option Addr) (k : Nat) : ∀ u ∈ exC x A k, u.oneCell' = true := by
  intro u hu
  simp only [exC, List.mem_cons, List.not_mem_nil, or_false] at hu
  rcases hu with rfl | rfl | rfl | rfl | rfl | rfl | rfl | rfl | rfl <;> rfl
theorem listR_one {R : Rw} {l : List Ex} {css : List (List Value)} (h : ListR (ExR R) 9 l css) : ∀ u ∈ css.flatten, u.oneCell' = true := by
  intro u hu
  obtain ⟨cs, hc, hucs⟩ := List.mem_flatten.1 hu
  obtain ⟨i, hi, rfl⟩ := List.getElem_of_mem hc
  obtain ⟨A, k, he, _⟩ := (h.2 i (l[i]'(by rw [← h.1]; exact hi)) _ (List.getElem?_eq_getElem _) (List.getElem?_eq_getElem hi)).1.parts
  rw [he] at hucs
  exact exC_one _ _ _ u hucs
theorem listR_append {R : Rw} {l m : List Ex} {css dss : List (List Value)} (h : ListR (ExR R) 9 l css) (k : ListR (ExR R) 9 m dss) : ListR (ExR R) 9 (l ++ m) (css ++ dss) := by
  refine ⟨by simp [h.1, k.1], fun i x cs h1 h2 => ?_⟩
  rcases Nat.lt_or_ge i l.length with hi | hi
  · rw [List.getElem?_append_left hi] at h1
    rw [List.getElem?_append_left (by rw [h.1]; exact hi)] at h2
    exact h.2 i x cs h1 h2
  · rw [List.getElem?_append_right hi] at h1
    rw [List.getElem?_append_right (by rw [h.1]; exact hi), h.1] at h2
    exact k.2 _ x cs h1 h2
theorem listR_single {R : Rw} {x : Ex} {A : Option Addr} (h : ExsR R A x.l) (k : Nat) : ListR (ExR R) 9 [x] [exC x A k] := by
  have := (ListR.nil (R := ExR R) (size := 9)).snoc (ExR.make h k) rfl
  simpa using this
theorem ExOwn.exs {u w : World} {base : Nat} {A : Option Addr} {c : Nat} {l : List Ex} (h : ExOwn u w base A c l) (g : Grew u w) : ExsR (PRow w) A l := by
  obtain ⟨css, h1, h2⟩ := h
  obtain ⟨A', c', e, h3⟩ := own_row h2
  injection e with e _ _
  subst e
  exact ⟨css, h1.map fun x cs hx => hx.grew g, h3⟩
/-- A row of whole structs that was just made. -/
theorem own_lit (w : World) (base : Nat) (e : TypeId) (size n b : Nat) (cs : Array Value) (hb : b = w.heap.size) (h : base ≤ b) (hs : cs.size = n * size) (hn : n ≤ 1000000) : (w.alloc (.cells cs e)).ownsRow base e size (.slice (some ⟨b, 0, none⟩) n n) n cs.toList := by
  subst hb
  exact ⟨by simpa using hs, Or.inr ⟨w.heap.size, n, cs, rfl, h, heap_alloc_new w _, Nat.le_refl _, by unfold maxLen; omega, by rw [hs], by rw [List.take_of_length_le (by simp [hs])]⟩⟩
theorem set9 (xs : List Value) (p : Nat) (z0 z1 z2 z3 z4 z5 z6 z7 z8 v0 v1 v2 v3 v4 v5 v6 v7 v8 : Value) (hp : xs.length = p) :
    ((((((((((xs ++ [z0, z1, z2, z3, z4, z5, z6, z7, z8]).set p v0).set (p + 1) v1).set (p + 2) v2).set (p + 3) v3).set (p + 4) v4).set (p + 5) v5).set (p + 6) v6).set (p + 7) v7).set (p + 8) v8) = xs ++ [v0, v1, v2, v3, v4, v5, v6, v7, v8] := by
  subst hp
  have h : ∀ (ys : List Value) (j : Nat) (v : Value), (xs ++ ys).set (xs.length + j) v = xs ++ ys.set j v := fun ys j v => by
    rw [List.set_append_right _ _ (by omega)]
    congr 2
    omega
  have h0 := h [z0, z1, z2, z3, z4, z5, z6, z7, z8] 0 v0
  rw [Nat.add_zero] at h0
  rw [h0, h, h, h, h, h, h, h, h]
  rfl
/-- A struct of nine cells is stored in its place. -/
theorem own_nine {w : World} {base g n cap p : Nat} {e : TypeId} {xs : List Value} {z0 z1 z2 z3 z4 z5 z6 z7 z8 : Value} (h : w.ownsRow base e 9 (.slice (some ⟨g, 0, none⟩) n cap) n (xs ++ [z0, z1, z2, z3, z4, z5, z6, z7, z8])) (hp : xs.length = p) (v0 v1 v2 v3 v4 v5 v6 v7 v8 : Value) :
    (((((((((w.setCell ⟨g, p, none⟩ v0).setCell ⟨g, p + 1, none⟩ v1).setCell ⟨g, p + 2, none⟩ v2).setCell ⟨g, p + 3, none⟩ v3).setCell ⟨g, p + 4, none⟩ v4).setCell ⟨g, p + 5, none⟩ v5).setCell ⟨g, p + 6, none⟩ v6).setCell ⟨g, p + 7, none⟩ v7).setCell ⟨g, p + 8, none⟩ v8).ownsRow base e 9 (.slice (some ⟨g, 0, none⟩) n cap) n (xs ++ [v0, v1, v2, v3, v4, v5, v6, v7, v8]) := by
  have := ((((((((((h.stored p v0).1.stored (p + 1) v1).1.stored (p + 2) v2).1.stored (p + 3) v3).1.stored (p + 4) v4).1.stored (p + 5) v5).1.stored (p + 6) v6).1.stored (p + 7) v7).1.stored (p + 8) v8).1)
  rw [set9 xs p _ _ _ _ _ _ _ _ _ _ _ _ _ _ _ _ _ _ hp] at this
  exact this
theorem cells_nine {w : World} {base g n cap p : Nat} {e : TypeId} {xs : List Value} {z0 z1 z2 z3 z4 z5 z6 z7 z8 : Value} (h : w.ownsRow base e 9 (.slice (some ⟨g, 0, none⟩) n cap) n (xs ++ [z0, z1, z2, z3, z4, z5, z6, z7, z8])) (hp : xs.length = p) (hn : p + 9 = n * 9) :
    w.cell? ⟨g, p, none⟩ = some z0 ∧ w.cell? ⟨g, p + 1, none⟩ = some z1 ∧ w.cell? ⟨g, p + 2, none⟩ = some z2 ∧ w.cell? ⟨g, p + 3, none⟩ = some z3 ∧ w.cell? ⟨g, p + 4, none⟩ = some z4 ∧ w.cell? ⟨g, p + 5, none⟩ = some z5 ∧ w.cell? ⟨g, p + 6, none⟩ = some z6 ∧ w.cell? ⟨g, p + 7, none⟩ = some z7 ∧ w.cell? ⟨g, p + 8, none⟩ = some z8 := by
  have k : ∀ j u, [z0, z1, z2, z3, z4, z5, z6, z7, z8][j]? = some u → w.cell? ⟨g, p + j, none⟩ = some u := fun j u hu => by
    have hj : j < 9 := by
      rcases Nat.lt_or_ge j 9 with h | h
      · exact h
      · rw [List.getElem?_eq_none (by simpa using h)] at hu; cases hu
    rw [h.cellAt (p + j) (by omega), List.getElem?_append_right (by omega), hp, Nat.add_sub_cancel_left]
    exact hu
  exact ⟨k 0 _ rfl, k 1 _ rfl, k 2 _ rfl, k 3 _ rfl, k 4 _ rfl, k 5 _ rfl, k 6 _ rfl, k 7 _ rfl, k 8 _ rfl⟩
def ColsAs (w : World) (g c : Nat) : Prop := Blok w g 136 #[.func (.func 90) #[] #[.pointer (some ⟨c, 0, none⟩), .pointer (some ⟨g, 0, none⟩)]]
/-- Columns are gathered in a variable. -/
structure Gath (u w : World) (base g c : Nat) (l : List Ex) : Prop where
  grew : Grew u w
  self : ColsAs w g c
  out : ∃ A k, Blok w c 22 #[.slice A l.length k] ∧ ExOwn u w base A k l
  size : base ≤ w.heap.size
theorem own_grewE {w w' : World} {base : Nat} {e : TypeId} {size n : Nat} {v : Value} {xs : List Value} (h : w.ownsRow base e size v n xs) (g : Grew w w') : w'.ownsRow base e size v n xs := by
  obtain ⟨x, rfl⟩ := g
  exact own_more h x
theorem ExOwn.grew {u w w' : World} {base : Nat} {A : Option Addr} {k : Nat} {l : List Ex} (h : ExOwn u w base A k l) (g : Grew w w') : ExOwn u w' base A k l := by
  obtain ⟨css, h1, h2⟩ := h
  exact ⟨css, h1, own_grewE h2 g⟩
theorem Gath.more {u w w' : World} {base g c : Nat} {l : List Ex} (h : Gath u w base g c l) (k : Grew w w') : Gath u w' base g c l := by
  obtain ⟨A, j, h1, h2⟩ := h.out
  exact ⟨h.grew.trans k, Blok.grew h.self k, ⟨A, j, h1.grew k, h2.grew k⟩, Nat.le_trans h.size k.size⟩
structure Keep3 (u w : World) (base g c : Nat) : Prop where
  grew : Grew u w
  self : ColsAs w g c
  size : base ≤ w.heap.size
theorem Keep3.set {u w : World} {base g c : Nat} (h : Keep3 u w base g c) {a : Addr} (ha : u.heap.size ≤ a.block) (hg : g ≠ a.block) (v : Value) : Keep3 u (w.setCell a v) base g c :=
  ⟨h.grew.setCell ha v, Blok.far h.self hg v, by rw [World.size_setCell]; exact h.size⟩
theorem Keep3.nine {u w : World} {base g c b p : Nat} (h : Keep3 u w base g c) (ha : u.heap.size ≤ b) (hg : g ≠ b) (v0 v1 v2 v3 v4 v5 v6 v7 v8 : Value) :
    Keep3 u (((((((((w.setCell ⟨b, p, none⟩ v0).setCell ⟨b, p + 1, none⟩ v1).setCell ⟨b, p + 2, none⟩ v2).setCell ⟨b, p + 3, none⟩ v3).setCell ⟨b, p + 4, none⟩ v4).setCell ⟨b, p + 5, none⟩ v5).setCell ⟨b, p + 6, none⟩ v6).setCell ⟨b, p + 7, none⟩ v7).setCell ⟨b, p + 8, none⟩ v8) base g c :=
  ((((((((h.set (a := ⟨b, p, none⟩) ha hg v0).set (a := ⟨b, p + 1, none⟩) ha hg v1).set (a := ⟨b, p + 2, none⟩) ha hg v2).set (a := ⟨b, p + 3, none⟩) ha hg v3).set (a := ⟨b, p + 4, none⟩) ha hg v4).set (a := ⟨b, p + 5, none⟩) ha hg v5).set (a := ⟨b, p + 6, none⟩) ha hg v6).set (a := ⟨b, p + 7, none⟩) ha hg v7).set (a := ⟨b, p + 8, none⟩) ha hg v8
theorem Blok.nine {w : World} {g b p : Nat} {t : TypeId} {cs : Array Value} (h : Blok w g t cs) (hg : g ≠ b) (v0 v1 v2 v3 v4 v5 v6 v7 v8 : Value) :
    Blok (((((((((w.setCell ⟨b, p, none⟩ v0).setCell ⟨b, p + 1, none⟩ v1).setCell ⟨b, p + 2, none⟩ v2).setCell ⟨b, p + 3, none⟩ v3).setCell ⟨b, p + 4, none⟩ v4).setCell ⟨b, p + 5, none⟩ v5).setCell ⟨b, p + 6, none⟩ v6).setCell ⟨b, p + 7, none⟩ v7).setCell ⟨b, p + 8, none⟩ v8) g t cs :=
  ((((((((h.far (p := ⟨b, p, none⟩) hg v0).far (p := ⟨b, p + 1, none⟩) hg v1).far (p := ⟨b, p + 2, none⟩) hg v2).far (p := ⟨b, p + 3, none⟩) hg v3).far (p := ⟨b, p + 4, none⟩) hg v4).far (p := ⟨b, p + 5, none⟩) hg v5).far (p := ⟨b, p + 6, none⟩) hg v6).far (p := ⟨b, p + 7, none⟩) hg v7).far (p := ⟨b, p + 8, none⟩) hg v8
theorem Gath.done {u w : World} {base g c gb cap k : Nat} {l0 : List Ex} {css : List (List Value)} {x : Ex} {A : Option Addr} (h : Keep3 u w base g c) (hb : Blok w c 22 #[.slice (some ⟨gb, 0, none⟩) (l0.length + 1) cap]) (hc : ListR (ExR (PRow u)) 9 l0 css) (hx : ListR (ExR (PRow u)) 9 [x] [exC x A k])
    (ho : w.ownsRow base 27 9 (.slice (some ⟨gb, 0, none⟩) (l0.length + 1) cap) (l0.length + 1) (css.flatten ++ exC x A k)) : Gath u w base g c (l0 ++ [x]) := by
  have e : (l0 ++ [x]).length = l0.length + 1 := by simp
  refine ⟨h.grew, h.self, ⟨some ⟨gb, 0, none⟩, cap, by rw [e]; exact hb, css ++ [exC x A k], listR_append hc hx, ?_⟩, h.size⟩
  rw [e, List.flatten_append]
  simpa using ho
def GathR (u : World) (base g c : Nat) (l : List Ex) (e : Ending) (w' : World) : Prop := e = .returned (.tuple #[]) ∧ Gath u w' base g c l
set_option maxHeartbeats 4000000 in
set_option maxRecDepth 100000 in
theorem colsc_in (tt cc vk vi : Int) (tab name vs : ByteArray) (l l0 : List Ex) (A : Option Addr) (k g c base : Nat) (u w : World) (hu : u.heap.size ≤ c) (hcb : c < base) (hgb : g < base) (hgc : g ≠ c) (hl : l0.length ≤ 1000000)
    (ra : ExsR (PRow u) A l) (hg : Gath u w base g c l0) :
    Calls Try.prog 90 #[exV (.mk 15 tab name tt cc vk vi vs l) A k, .pointer (some ⟨c, 0, none⟩), .pointer (some ⟨g, 0, none⟩)] w (GathR u base g c (l0 ++ [.mk 15 tab name tt cc vk vi vs l])) := by
  have HE := Lib.hid (listR_single (x := .mk 15 tab name tt cc vk vi vs l) ra k)
  obtain ⟨A0, k0, hb, css, hcs, ho⟩ := hg.out
  have HS := Lib.hid hg.self
  have HGr := Lib.hid hg.grew
  have HB := Lib.hid hb
  have HCs := Lib.hid hcs
  have HO := Lib.hid ho
  have hbw := hg.size
  have hlen := hcs.flat
  clear ra hg hb hcs ho
  unfold exV
  simp only [Ex.op, Ex.tab, Ex.name, Ex.t, Ex.c, Ex.vk, Ex.vi, Ex.vs, Ex.l]
  generalize hq : Ex.mk 15 tab name tt cc vk vi vs l = xx at *
  have HQ := Lib.hid hq
  clear hq
  go_enter Try.func90, Try.ntmps90
  go_upto_region 2 with fail
  have hS0 : Blok (w.alloc (.cells #[.int .i64 15, .string tab, .string name, .int .i64 tt, .int .i64 cc, .int .i64 vk, .int .i64 vi, .string vs, .slice A l.length k] 27)).drew c 22 #[.slice A0 l0.length k0] ∧ Blok (w.alloc (.cells #[.int .i64 15, .string tab, .string name, .int .i64 tt, .int .i64 cc, .int .i64 vk, .int .i64 vi, .string vs, .slice A l.length k] 27)).drew w.heap.size 27 #[.int .i64 15, .string tab, .string name, .int .i64 tt, .int .i64 cc, .int .i64 vk, .int .i64 vi, .string vs, .slice A l.length k] :=
    ⟨(HB.out.alloc _).grew (Grew.refl _).drew, (Blok.new _ _ _ _ rfl).grew (Grew.refl _).drew⟩
  refine wp_region_tail (fun W => Blok W c 22 #[.slice A0 l0.length k0] ∧ Blok W w.heap.size 27 #[.int .i64 15, .string tab, .string name, .int .i64 tt, .int .i64 cc, .int .i64 vk, .int .i64 vi, .string vs, .slice A l.length k]) 5 3 rfl (by kernel_rfl) ?_
  refine tail_take 0 (v := ?_) rfl (by kernel_rfl) (by kernel_rfl) (by kernel_rfl) (by kernel_rfl) (fun _ _ _ h => h) (by rfl) ?_ hS0 ?_
  rotate_left
  · (intro W hW; have q := hW.1.cell 0; simp at q; go_simp; with_reducible rfl)
  refine tail_norm (a' := ?_) ?_ ?_
  rotate_left
  · (go_simp; with_reducible rfl)
  refine tail_take 1 (v := ?_) rfl (by kernel_rfl) (by kernel_rfl) (by kernel_rfl) (by kernel_rfl) (fun _ _ _ h => h) (by rfl) ?_ hS0 ?_
  rotate_left
  · (intro W hW; have q0 := hW.2.cell 0; have q1 := hW.2.cell 1; have q2 := hW.2.cell 2; have q3 := hW.2.cell 3; have q4 := hW.2.cell 4; have q5 := hW.2.cell 5; have q6 := hW.2.cell 6; have q7 := hW.2.cell 7; have q8 := hW.2.cell 8; simp at q0 q1 q2 q3 q4 q5 q6 q7 q8; go_simp; with_reducible rfl)
  refine tail_norm (a' := ?_) ?_ ?_
  rotate_left
  · (go_simp; with_reducible rfl)
  refine tail_take 2 (v := ?_) rfl (by kernel_rfl) (by kernel_rfl) (by kernel_rfl) (by kernel_rfl) (fun _ _ _ h => h) (by rfl) ?_ hS0 ?_
  rotate_left
  · (intro W hW; go_simp; with_reducible rfl)
  refine tail_norm (a' := ?_) ?_ ?_
  rotate_left
  · (go_simp; with_reducible rfl)
  refine tail_call 3 (by kernel_rfl) (by kernel_rfl) rfl (by rfl) (fun K hK => ?_)
  go_simp
  go_wp2_with fail
  refine hK.out _ _ ⟨hS0.1.alloc _, hS0.2.alloc _⟩ ?_
  clear hK K
  refine tail_call 4 (by kernel_rfl) (by kernel_rfl) rfl (by rfl) (fun K hK => ?_)
  have hrow : ∀ i, (Value.slice A0 l0.length k0).ownBlock = some i → base ≤ i := own_base HO.out
  have hrl : ∀ i, (Value.slice A0 l0.length k0).ownBlock = some i → i < w.heap.size := own_lt HO.out
  refine wp_appB (.tmp 9) (.tmp 12) 22 27 9 rfl base (.agg #[.int .i64 0, .string ⟨#[]⟩, .string ⟨#[]⟩, .int .i64 0, .int .i64 0, .int .i64 0, .int .i64 0, .string ⟨#[]⟩, .slice none 0 0]) 112 Try.underlying22 infoE rfl (by decide) (by decide) _ l0.length css.flatten rfl (own_alloc (own_grewE (own_alloc HO.out _) (Grew.refl _).drew) _) _ 1 1 [.int .i64 0, .string ⟨#[]⟩, .string ⟨#[]⟩, .int .i64 0, .int .i64 0, .int .i64 0, .int .i64 0, .string ⟨#[]⟩, .slice none 0 0] rfl rfl (row_new _ _ _ #[.int .i64 0, .string ⟨#[]⟩, .string ⟨#[]⟩, .int .i64 0, .int .i64 0, .int .i64 0, .int .i64 0, .string ⟨#[]⟩, .slice none 0 0] (by simp)) (by intro u hu; simp only [List.mem_cons, List.not_mem_nil, or_false] at hu; rcases hu with rfl | rfl | rfl | rfl | rfl | rfl | rfl | rfl | rfl <;> rfl) (by omega) (by have e : ∀ w : World, w.drew.heap.size = w.heap.size := fun _ => rfl; simp only [World.size_alloc, e]; omega) ?_
  intro A6 c6 w6 ho6 hg6
  have hS6 := (⟨(hS0.1.alloc _).grown hg6 (fun e => by have := hrow c e; omega), (hS0.2.alloc _).grown hg6 (fun e => by have := hrl _ e; omega)⟩ : Blok w6 c 22 #[.slice A0 l0.length k0] ∧ Blok w6 w.heap.size 27 #[.int .i64 15, .string tab, .string name, .int .i64 tt, .int .i64 cc, .int .i64 vk, .int .i64 vi, .string vs, .slice A l.length k])
  refine hK.out _ _ hS6 ?_
  clear hK K
  refine tail_done (by kernel_rfl) ?_
  obtain ⟨gb, cap, hv, hgb1, hgb2⟩ := World.ownsRow.form ho6 (by omega)
  injection hv with hv1 _ hv3
  subst hv1 hv3
  have hlt1 : (l0.length : Int) < (l0.length : Int) + 1 := by omega
  refine wpAny_take (i := 5) (v := ?_) rfl (by kernel_rfl) (by kernel_rfl) (by kernel_rfl) (fun _ _ _ h => h) (Or.inl ⟨by rfl, ?_⟩) ?_
  rotate_left
  · (intro w; go_simp; with_reducible rfl)
  have z0 := ho6.frozenAt (l0.length * 9)
  have z1 := ho6.frozenAt (l0.length * 9 + 1)
  have z2 := ho6.frozenAt (l0.length * 9 + 2)
  have z3 := ho6.frozenAt (l0.length * 9 + 3)
  have z4 := ho6.frozenAt (l0.length * 9 + 4)
  have z5 := ho6.frozenAt (l0.length * 9 + 5)
  have z6 := ho6.frozenAt (l0.length * 9 + 6)
  have z7 := ho6.frozenAt (l0.length * 9 + 7)
  have z8 := ho6.frozenAt (l0.length * 9 + 8)
  obtain ⟨q0, q1, q2, q3, q4, q5, q6, q7, q8⟩ := cells_nine ho6 hlen (by omega)
  have hcz := hS6.1.thaw 0
  have hcc := hS6.1.cell 0
  simp at hcc
  have hcl := hS6.1.lt
  have hcg : c ≠ gb := by omega
  have hgc' : gb ≠ c := by omega
  refine wpAny_ready (rs := [6, 7]) (by kernel_rfl) (by simp) ?_
  have hk6 : Keep3 u w6 base g c := ⟨((((HGr.out.alloc _).drew).alloc _).grown hg6 (fun i hi => by have := hrow i hi; omega)), Blok.grown ((Blok.grew (Blok.alloc HS.out _) (Grew.refl _).drew).alloc _) hg6 (fun e => by have := hrow g e; omega), by omega⟩
  have hex : exC xx A k = [.int .i64 15, .string tab, .string name, .int .i64 tt, .int .i64 cc, .int .i64 vk, .int .i64 vi, .string vs, .slice A l.length k] := by rw [← HQ.out]; rfl
  have HK6 := Lib.hid hk6
  have HO6 := Lib.hid ho6
  have HS6 := Lib.hid hS6.1
  have HX := Lib.hid hex
  have hgg : g ≠ gb := by omega
  have hug : u.heap.size ≤ gb := by omega
  clear HS HGr HB HO hS0 hrow hrl hg6 hk6 hex hS6 ho6
  refine AllReady.cons rfl (fun K hK => ?_) (AllReady.cons rfl (fun K hK => ?_) AllReady.nil)
  · have HK := Lib.hid hK
    clear hK
    go_simp
    refine HK.out _ _ ?_
    clear HK K
    have HOf := Lib.hid (own_nine HO6.out hlen (.int .i64 15) (.string tab) (.string name) (.int .i64 tt) (.int .i64 cc) (.int .i64 vk) (.int .i64 vi) (.string vs) (.slice A l.length k))
    have HKf := Lib.hid (HK6.out.nine (p := l0.length * 9) hug hgg (.int .i64 15) (.string tab) (.string name) (.int .i64 tt) (.int .i64 cc) (.int .i64 vk) (.int .i64 vi) (.string vs) (.slice A l.length k))
    have HBf := Lib.hid (HS6.out.nine (p := l0.length * 9) hcg (.int .i64 15) (.string tab) (.string name) (.int .i64 tt) (.int .i64 cc) (.int .i64 vk) (.int .i64 vi) (.string vs) (.slice A l.length k))
    clear z0 z1 z2 z3 z4 z5 z6 z7 z8 q0 q1 q2 q3 q4 q5 q6 q7 q8 hcz hcc hcl HO6 HK6 HS6
    generalize (((((((((w6.setCell ⟨gb, l0.length * 9, none⟩ (.int .i64 15)).setCell ⟨gb, l0.length * 9 + 1, none⟩ (.string tab)).setCell ⟨gb, l0.length * 9 + 2, none⟩ (.string name)).setCell ⟨gb, l0.length * 9 + 3, none⟩ (.int .i64 tt)).setCell ⟨gb, l0.length * 9 + 4, none⟩ (.int .i64 cc)).setCell ⟨gb, l0.length * 9 + 5, none⟩ (.int .i64 vk)).setCell ⟨gb, l0.length * 9 + 6, none⟩ (.int .i64 vi)).setCell ⟨gb, l0.length * 9 + 7, none⟩ (.string vs)).setCell ⟨gb, l0.length * 9 + 8, none⟩ (.slice A l.length k)) = W at *
    have hcz := HBf.out.thaw 0
    have hcc := HBf.out.cell 0
    have hcl := HBf.out.lt
    simp at hcc
    refine wpAny_ready (rs := [7]) (by kernel_rfl) (by simp) ?_
    refine AllReady.cons rfl (fun K hK => ?_) AllReady.nil
    have HK := Lib.hid hK
    clear hK
    go_simp
    refine HK.out _ _ ?_
    clear HK K
    refine ⟨by kernel_rfl, ?_⟩
    have HD : Hid (Gath u (W.setCell ⟨c, 0, none⟩ (.slice (some ⟨gb, 0, none⟩) (l0.length + 1) c6)) base g c (l0 ++ [xx])) := Lib.hid (Gath.done (HKf.out.set (a := ⟨c, 0, none⟩) hu hgc _) (blok_set1 HBf.out _) HCs.out HE.out (by rw [HX.out]; exact ownsRow_setCell_below HOf.out (a := ⟨c, 0, none⟩) hcb _))
    clear HKf HBf HOf HCs HE
    go_wp2
    first | go_end0 | skip
    exact ⟨rfl, HD.out⟩
  · have HK := Lib.hid hK
    clear hK
    go_simp
    refine HK.out _ _ ?_
    clear HK K
    have HO7 := Lib.hid (ownsRow_setCell_below HO6.out (a := ⟨c, 0, none⟩) hcb (.slice (some ⟨gb, 0, none⟩) (l0.length + 1) c6))
    have HK7 := Lib.hid (HK6.out.set (a := ⟨c, 0, none⟩) hu hgc (.slice (some ⟨gb, 0, none⟩) (l0.length + 1) c6))
    have HB7 := Lib.hid (blok_set1 HS6.out (.slice (some ⟨gb, 0, none⟩) (l0.length + 1) c6))
    have hgl : gb < (w6.setCell ⟨c, 0, none⟩ (.slice (some ⟨gb, 0, none⟩) (l0.length + 1) c6)).heap.size := by rw [World.size_setCell]; exact hgb2
    clear z0 z1 z2 z3 z4 z5 z6 z7 z8 q0 q1 q2 q3 q4 q5 q6 q7 q8 hcz hcc hcl HO6 HK6 HS6
    generalize (w6.setCell ⟨c, 0, none⟩ (.slice (some ⟨gb, 0, none⟩) (l0.length + 1) c6)) = W at *
    have z0 := HO7.out.frozenAt (l0.length * 9)
    have z1 := HO7.out.frozenAt (l0.length * 9 + 1)
    have z2 := HO7.out.frozenAt (l0.length * 9 + 2)
    have z3 := HO7.out.frozenAt (l0.length * 9 + 3)
    have z4 := HO7.out.frozenAt (l0.length * 9 + 4)
    have z5 := HO7.out.frozenAt (l0.length * 9 + 5)
    have z6 := HO7.out.frozenAt (l0.length * 9 + 6)
    have z7 := HO7.out.frozenAt (l0.length * 9 + 7)
    have z8 := HO7.out.frozenAt (l0.length * 9 + 8)
    obtain ⟨q0, q1, q2, q3, q4, q5, q6, q7, q8⟩ := cells_nine HO7.out hlen (by omega)
    refine wpAny_ready (rs := [6]) (by kernel_rfl) (by simp) ?_
    refine AllReady.cons rfl (fun K hK => ?_) AllReady.nil
    have HK := Lib.hid hK
    clear hK
    go_simp
    refine HK.out _ _ ?_
    clear HK K
    refine ⟨by kernel_rfl, ?_⟩
    have HD : Hid (Gath u (((((((((W.setCell ⟨gb, l0.length * 9, none⟩ (.int .i64 15)).setCell ⟨gb, l0.length * 9 + 1, none⟩ (.string tab)).setCell ⟨gb, l0.length * 9 + 2, none⟩ (.string name)).setCell ⟨gb, l0.length * 9 + 3, none⟩ (.int .i64 tt)).setCell ⟨gb, l0.length * 9 + 4, none⟩ (.int .i64 cc)).setCell ⟨gb, l0.length * 9 + 5, none⟩ (.int .i64 vk)).setCell ⟨gb, l0.length * 9 + 6, none⟩ (.int .i64 vi)).setCell ⟨gb, l0.length * 9 + 7, none⟩ (.string vs)).setCell ⟨gb, l0.length * 9 + 8, none⟩ (.slice A l.length k)) base g c (l0 ++ [xx])) := Lib.hid (Gath.done (HK7.out.nine (p := l0.length * 9) hug hgg _ _ _ _ _ _ _ _ _) (HB7.out.nine (p := l0.length * 9) hcg _ _ _ _ _ _ _ _ _) HCs.out HE.out (by rw [HX.out]; exact own_nine HO7.out hlen _ _ _ _ _ _ _ _ _))
    clear HK7 HB7 HO7 HCs HE z0 z1 z2 z3 z4 z5 z6 z7 z8 q0 q1 q2 q3 q4 q5 q6 q7 q8
    generalize (((((((((W.setCell ⟨gb, l0.length * 9, none⟩ (.int .i64 15)).setCell ⟨gb, l0.length * 9 + 1, none⟩ (.string tab)).setCell ⟨gb, l0.length * 9 + 2, none⟩ (.string name)).setCell ⟨gb, l0.length * 9 + 3, none⟩ (.int .i64 tt)).setCell ⟨gb, l0.length * 9 + 4, none⟩ (.int .i64 cc)).setCell ⟨gb, l0.length * 9 + 5, none⟩ (.int .i64 vk)).setCell ⟨gb, l0.length * 9 + 6, none⟩ (.int .i64 vi)).setCell ⟨gb, l0.length * 9 + 7, none⟩ (.string vs)).setCell ⟨gb, l0.length * 9 + 8, none⟩ (.slice A l.length k)) = Wf at *
    go_wp2
    first | go_end0 | skip
    exact ⟨rfl, HD.out⟩
end Go.Proofs.Ytoaciliojdaoaaa
