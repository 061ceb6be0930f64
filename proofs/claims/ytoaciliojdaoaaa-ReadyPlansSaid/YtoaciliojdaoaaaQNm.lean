/- Layer 16: a query's conditions are not too many. No condition. -/
import Derived.Test.YtoaciliojdaoaaaQNb
import Derived.Test.YtoaciliojdaoaaaTail
import Derived.Test.YtoaciliojdaoaaaHead

/- Layer 16: a condition is put where it belongs. Condition: a condition that lies in memory that is there. -/
namespace Go.Proofs.Ytoaciliojdaoaaa
open Go.RowKit
attribute [local go_sem] more_cell more_frozen more_more more_setCell more_of_drew more_of_drewN lt_more le_more past_cell past_cell2 past_frozen past_frozen2 past_setCell past_setCell2 mid_cell mid_frozen mid_setCell
attribute [local go_sem ↓] Go.wp_at_zero Go.wp_at_succ

theorem setCell_comm (w : World) {a b : Addr} (x y : Value) (h : a.block ≠ b.block) : (w.setCell a x).setCell b y = (w.setCell b y).setCell a x := by
  unfold World.setCell
  simp only
  congr 1
  apply Array.ext_getElem?
  intro i
  simp only [Array.getElem?_modify]
  by_cases h1 : a.block = i
  · have h2 : ¬ b.block = i := fun e => h (h1.trans e.symm)
    simp [h1, h2]
  · by_cases h2 : b.block = i
    · simp [h1, h2]
    · simp [h1, h2]
theorem nine_comm (w : World) {g b j p : Nat} (h : g ≠ b) (x v0 v1 v2 v3 v4 v5 v6 v7 v8 : Value) :
    (((((((((w.setCell ⟨b, p, none⟩ v0).setCell ⟨b, p + 1, none⟩ v1).setCell ⟨b, p + 2, none⟩ v2).setCell ⟨b, p + 3, none⟩ v3).setCell ⟨b, p + 4, none⟩ v4).setCell ⟨b, p + 5, none⟩ v5).setCell ⟨b, p + 6, none⟩ v6).setCell ⟨b, p + 7, none⟩ v7).setCell ⟨b, p + 8, none⟩ v8).setCell ⟨g, j, none⟩ x =
    (((((((((w.setCell ⟨g, j, none⟩ x).setCell ⟨b, p, none⟩ v0).setCell ⟨b, p + 1, none⟩ v1).setCell ⟨b, p + 2, none⟩ v2).setCell ⟨b, p + 3, none⟩ v3).setCell ⟨b, p + 4, none⟩ v4).setCell ⟨b, p + 5, none⟩ v5).setCell ⟨b, p + 6, none⟩ v6).setCell ⟨b, p + 7, none⟩ v7).setCell ⟨b, p + 8, none⟩ v8 := by
  have e : ∀ (w : World) (q : Nat) (v : Value), (w.setCell ⟨b, q, none⟩ v).setCell ⟨g, j, none⟩ x = (w.setCell ⟨g, j, none⟩ x).setCell ⟨b, q, none⟩ v := fun w q v => setCell_comm w v x (Ne.symm h)
  rw [e, e, e, e, e, e, e, e, e]
theorem grown_set {w w' : World} {row : Option Nat} (h : w.grownBy w' row) {a : Addr} (ha : row = some a.block ∨ w.heap.size ≤ a.block) (x : Value) : w.grownBy (w'.setCell a x) row := by
  refine ⟨h.os, h.tape, h.output, by rw [World.size_setCell]; exact h.size, fun i hi hr => ?_⟩
  rw [heap_set _ _ (fun e => by
    rcases ha with ha | ha
    · exact hr (by rw [ha, e])
    · omega)]
  exact h.block i hi hr
theorem grown_nine {w w' : World} {row : Option Nat} {b p : Nat} (h : w.grownBy w' row) (ha : row = some b ∨ w.heap.size ≤ b) (v0 v1 v2 v3 v4 v5 v6 v7 v8 : Value) :
    w.grownBy (((((((((w'.setCell ⟨b, p, none⟩ v0).setCell ⟨b, p + 1, none⟩ v1).setCell ⟨b, p + 2, none⟩ v2).setCell ⟨b, p + 3, none⟩ v3).setCell ⟨b, p + 4, none⟩ v4).setCell ⟨b, p + 5, none⟩ v5).setCell ⟨b, p + 6, none⟩ v6).setCell ⟨b, p + 7, none⟩ v7).setCell ⟨b, p + 8, none⟩ v8) row :=
  grown_set (grown_set (grown_set (grown_set (grown_set (grown_set (grown_set (grown_set (grown_set h ha v0) ha v1) ha v2) ha v3) ha v4) ha v5) ha v6) ha v7) ha v8
theorem row_grown2 {w w' : World} {row : Option Nat} {b o : Nat} {xs : List Value} (h : Row w (some ⟨b, o, none⟩) xs) (k : w.grownBy w' row) (hr : row ≠ some b) : Row w' (some ⟨b, o, none⟩) xs := by
  rcases h with h | ⟨b', o', hA, hlt, hc⟩
  · exact Or.inl h
  · injection hA with hA
    injection hA with h1 h2 _
    subst h1 h2
    refine Or.inr ⟨b, o, rfl, Nat.lt_of_lt_of_le hlt k.size, fun j u hu => ?_⟩
    rw [← hc j u hu]
    simp only [World.cell?, k.block b hlt (fun e => hr e.symm)]
theorem scan_kept {pr : Nat → Prop} {u v w w' : World} {base g : Nat} {core : Int} {sc : List (List Ex)} {es : List Ed} {rs wh : List Ex} {A : Option Addr} {k : Nat} {vs : List Value} {vE vR vL vW : Value} {cs ec : Array Value} {bx bu ou b0 n : Nat} {is : List Value} {vq : Value} {xs : List Value} {W0 : World}
    (h : Blok w g 37 cs ∧ Blok w bx 27 ec ∧ Row w (some ⟨bu, ou, none⟩) is ∧ w.ownsRow base 22 1 (.slice (some ⟨b0, 0, none⟩) vs.length k) vs.length vs) (hg : w.grownBy w' vq.ownBlock)
    (hn : Nst pr u v w base g core sc es rs wh A k vs vE vR vL vW) (ho : W0.ownsRow base 27 9 vq n xs) (hW : ∀ q, vq.ownBlock = some q → w.ownsRow base 27 9 vq n xs) (hl : ∀ i, vq.ownBlock = some i → i < bx) (hb : bx < bu) :
    Blok w' g 37 cs ∧ Blok w' bx 27 ec ∧ Row w' (some ⟨bu, ou, none⟩) is ∧ w'.ownsRow base 22 1 (.slice (some ⟨b0, 0, none⟩) vs.length k) vs.length vs := by
  have hbb := own_base ho
  have l2 := hn.low.2
  refine ⟨h.1.grown hg fun e => by have := hbb g e; omega, h.2.1.grown hg fun e => Nat.lt_irrefl _ (hl bx e), row_grown2 h.2.2.1 hg fun e => by have := hl bu e; omega, own_grown h.2.2.2 hg fun b hb' e => type_apart h.2.2.2 (hW b e.symm) (by decide) b hb' e.symm⟩
/-- One more condition has been put where it belongs. -/
def PutF (pr : Nat → Prop) (u v : World) (base g : Nat) (core : Nat) (AS : Option Addr) (kS : Nat) (vL : Value) (l : List Ex) (e : Ending) (w' : World) : Prop :=
  e = .returned (.tuple #[]) ∧ ∃ vs vE vR vW, Nst pr u v w' base g core (nS core l) (nE core l) (nR core l) (nW core l) AS kS vs vE vR vL vW
end Go.Proofs.Ytoaciliojdaoaaa

/- Layer 16: parts in a row of one's own; rows that are let alone; lists of tables behind the core. No condition. -/
namespace Go.Proofs.Ytoaciliojdaoaaa
open Go.RowKit
attribute [local go_sem] more_cell more_frozen more_more more_setCell more_of_drew more_of_drewN lt_more le_more past_cell past_cell2 past_frozen past_frozen2 past_setCell past_setCell2 mid_cell mid_frozen mid_setCell
attribute [local go_sem ↓] Go.wp_at_zero Go.wp_at_succ

/-- Parts in a row of one's own. -/
def PartsF (u w : World) (l : List Ex) (e : Ending) (w' : World) : Prop := ∃ A k, e = .returned (.slice A l.length k) ∧ Grew w w' ∧ ExOwn u w' w.heap.size A k l
/-- Nothing else is named. -/
def noP : Nat → Prop := fun _ => False
section
variable {u v w w' : World} {base g : Nat} {core : Int} {sc : List (List Ex)} {es : List Ed} {rs wh : List Ex} {A : Option Addr} {k : Nat} {vs : List Value} {vE vR vL vW : Value}
theorem Nst.lts {pr : Nat → Prop} (h : Nst pr u v w base g core sc es rs wh A k vs vE vR vL vW) : ∀ x, x ∈ (.slice A vs.length k) :: vE :: vR :: vW :: vs → ∀ i, x.ownBlock = some i → i < w.heap.size := fun x hx i hi => by
  simp only [List.mem_cons] at hx
  rcases hx with rfl | rfl | rfl | rfl | hx
  · exact own_lt h.outer i hi
  · obtain ⟨_, _, rfl, ho⟩ := h.edges
    exact own_lt ho i hi
  · obtain ⟨_, _, ho⟩ := (h.bins.each 0 _ rs rfl rfl).own
    exact own_lt ho i hi
  · obtain ⟨_, _, ho⟩ := (h.bins.each 1 _ wh rfl rfl).own
    exact own_lt ho i hi
  · obtain ⟨q, hq, rfl⟩ := List.getElem_of_mem hx
    have hs : q < sc.length := by rw [← h.sizes]; exact hq
    obtain ⟨_, _, ho⟩ := (h.bins.each (q + 2) vs[q] sc[q] (by simp) (by simp [hs])).own
    exact own_lt ho i hi
/-- A row that was made behind is let alone. -/
theorem Nst.guard (h : Nst noP u v w base g core sc es rs wh A k vs vE vR vL vW) (hg : Grew w w') {e : TypeId} {size n : Nat} {x : Value} {xs : List Value} (ho : w'.ownsRow w.heap.size e size x n xs) :
    Nst (fun i => x.ownBlock = some i) u w' w' base g core sc es rs wh A k vs vE vR vL vW := by
  have h' := h.more hg
  have hb := own_base ho
  have hs := h.size
  have hl := h.low.2
  exact ⟨h'.blk, h'.outer, h'.bins, h'.edges, h'.grew, h'.size, h'.low, fun _ _ _ => rfl, fun i hi => ⟨by have := hb i hi; omega, own_lt ho i hi, rfl⟩, fun y hy i hi hp => by
    have h1 := h.lts y hy i hi
    have h2 := hb i hp
    omega⟩
theorem Nst.leave {pr : Nat → Prop} {v' : World} {sc' : List (List Ex)} {es' : List Ed} {rs' wh' : List Ex} {A' : Option Addr} {k' : Nat} {vs' : List Value} {vE' vR' vL' vW' : Value} (h : Nst pr u v' w base g core sc es rs wh A k vs vE vR vL vW) (h' : Nst noP u v v' base g core sc' es' rs' wh' A' k' vs' vE' vR' vL' vW') : Nst noP u v w base g core sc es rs wh A k vs vE vR vL vW :=
  ⟨h.blk, h.outer, h.bins, h.edges, h.grew, h.size, h.low, fun i hi hn => (h.kept i hi hn).trans (h'.kept i hi hn), fun _ hp => hp.elim, fun _ _ _ _ hp => hp⟩
theorem own_same {e : TypeId} {size n B : Nat} {x : Value} {xs : List Value} (ho : w.ownsRow B e size x n xs) (hs : ∀ i, x.ownBlock = some i → w'.heap[i]? = w.heap[i]?) : w'.ownsRow B e size x n xs := by
  refine ⟨ho.1, ?_⟩
  rcases ho.2 with q | ⟨q, cap, cur, rfl, hb, hh, r⟩
  · exact Or.inl q
  · exact Or.inr ⟨q, cap, cur, rfl, hb, by rw [hs q rfl]; exact hh, r⟩
end
theorem infoEx : (Try.prog.info? 22).map (fun i => (i.zero, i.size, i.bytes)) = some (some (.slice none 0 0), 1, 24) := by kernel_rfl
/-- The parts of the joins' conditions of the core, up to a place; all conditions of the core. -/
def allP (sr : List Fr) (i : Nat) : List Ex := (((sr.take i).drop 1).map fun f => partsX f.on).flatten
def allX (sr : List Fr) (wh : Ex) (core : Nat) : List Ex := allP sr core ++ partsX wh
def latesX (sr : List Fr) (core n : Nat) : List La := (List.range n).map fun i => lateX (sr.getD (core + i) default) ((core + i : Nat) : Int)
def normX (sr : List Fr) (wh : Ex) : Nm := ⟨coreN sr, nS (coreN sr) (allX sr wh (coreN sr)), nE (coreN sr) (allX sr wh (coreN sr)), nR (coreN sr) (allX sr wh (coreN sr)), latesX sr (coreN sr) (sr.length - coreN sr), nW (coreN sr) (allX sr wh (coreN sr))⟩
theorem allP_one (sr : List Fr) : allP sr 1 = [] := by
  unfold allP
  have : (sr.take 1).drop 1 = [] := List.drop_of_length_le (by simp; omega)
  rw [this]
  rfl
theorem allP_succ (sr : List Fr) {i : Nat} (h1 : 1 ≤ i) (h : i < sr.length) : allP sr (i + 1) = allP sr i ++ partsX sr[i].on := by
  unfold allP
  rw [List.take_succ_eq_append_getElem h, List.drop_append_of_le_length (by rw [List.length_take]; omega), List.map_append, List.flatten_append]
  simp
theorem allP_zero (sr : List Fr) : allP sr 0 = [] := rfl
theorem allP_len (sr : List Fr) (hn : ∀ f ∈ sr, f.on.nodes ≤ 200) (i : Nat) : (allP sr i).length ≤ 200 * sr.length := by
  have : ∀ l : List Fr, (∀ f ∈ l, f.on.nodes ≤ 200) → ((l.map fun f => partsX f.on).flatten).length ≤ 200 * l.length := fun l => by
    induction l with
    | nil => intro _; simp
    | cons f l ih =>
      intro h
      have h1 := ih fun g hg => h g (by simp [hg])
      have h2 := partsX_len f.on
      have h3 := h f (by simp)
      simp only [List.map_cons, List.flatten_cons, List.length_append, List.length_cons]
      omega
  have h := this ((sr.take i).drop 1) fun f hf => hn f (List.mem_of_mem_take (List.mem_of_mem_drop hf))
  have h2 : ((sr.take i).drop 1).length ≤ sr.length := by rw [List.length_drop, List.length_take]; omega
  unfold allP
  omega
theorem allP_nodes (sr : List Fr) (hn : ∀ f ∈ sr, f.on.nodes ≤ 200) (i : Nat) : ∀ y ∈ allP sr i, y.nodes ≤ 200 := by
  intro y hy
  unfold allP at hy
  obtain ⟨l, hl, hyl⟩ := List.mem_flatten.1 hy
  obtain ⟨f, hf, rfl⟩ := List.mem_map.1 hl
  exact Nat.le_trans (partsX_nodes f.on y hyl) (hn f (List.mem_of_mem_take (List.mem_of_mem_drop hf)))
/-- A list of tables behind the core in a row of one's own. -/
def ExT (u w : World) (base : Nat) (v : Value) (l : List Ex) : Prop := ∃ A c css, v = .slice A l.length c ∧ ListR (ExR (PRow u)) 9 l css ∧ TRow base w 27 A css.flatten
def EdT (w : World) (base : Nat) (v : Value) (l : List Ed) : Prop := ∃ A c, v = .slice A l.length c ∧ TRow base w 68 A (edsC l)
def LaU (u w : World) (base : Nat) (x : La) (cs : List Value) : Prop := ∃ vK vS vR, cs = [.int .i64 x.table, .int .i64 x.join, vK, vS, vR] ∧ EdT w base vK x.keys ∧ ExT u w base vS x.scan ∧ ExT u w base vR x.rest
def LaSl (u w : World) (base : Nat) (v : Value) (l : List La) : Prop := ∃ A c css, v = .slice A l.length c ∧ ListR (LaU u w base) 5 l css ∧ w.ownsRow base 72 5 v l.length css.flatten
theorem LaU.map {u w w' : World} {base : Nat} {x : La} {cs : List Value} (h : LaU u w base x cs) (h1 : ∀ A xs, TRow base w 68 A xs → TRow base w' 68 A xs) (h2 : ∀ A xs, TRow base w 27 A xs → TRow base w' 27 A xs) : LaU u w' base x cs := by
  obtain ⟨vK, vS, vR, rfl, ⟨A, c, e1, q1⟩, ⟨B, d, css, e2, r2, q2⟩, ⟨C, f, dss, e3, r3, q3⟩⟩ := h
  exact ⟨vK, vS, vR, rfl, ⟨A, c, e1, h1 _ _ q1⟩, ⟨B, d, css, e2, r2, h2 _ _ q2⟩, ⟨C, f, dss, e3, r3, h2 _ _ q3⟩⟩
theorem LaSl.more {u w w' : World} {base : Nat} {v : Value} {l : List La} (h : LaSl u w base v l) (g : Grew w w') : LaSl u w' base v l := by
  obtain ⟨A, c, css, e, h1, h2⟩ := h
  exact ⟨A, c, css, e, h1.map fun x cs hx => hx.map (fun _ _ q => q.grew g) (fun _ _ q => q.grew g), own_grewE h2 g⟩
theorem LaSl.nil (u w : World) (base : Nat) : LaSl u w base (.slice none 0 0) [] := ⟨none, 0, [], rfl, ListR.nil, own_none _ _ _ _⟩
theorem infoLa : (Try.prog.info? 72).map (fun i => (i.zero, i.size, i.bytes)) = some (some (.agg #[.int .i64 0, .int .i64 0, .slice none 0 0, .slice none 0 0, .slice none 0 0]), 5, 88) := by kernel_rfl
/-- What late hands back, as an element. -/
theorem late_elem {u v w : World} {base : Nat} {x : La} {vK vS vR : Value} (hb : base ≤ v.heap.size) (hK : EdSl w v.heap.size vK x.keys) (hB : Bins u w v.heap.size [vS, vR] [x.scan, x.rest]) : LaU u w base x [.int .i64 x.table, .int .i64 x.join, vK, vS, vR] := by
  obtain ⟨A, c, e1, o1⟩ := hK
  obtain ⟨B, d, e2, css, r2, o2⟩ := hB.each 0 vS x.scan rfl rfl
  obtain ⟨C, f, e3, dss, r3, o3⟩ := hB.each 1 vR x.rest rfl rfl
  subst e1 e2 e3
  exact ⟨_, _, _, rfl, ⟨A, c, rfl, TRow.own (own_le o1 hb)⟩, ⟨B, d, css, rfl, r2, TRow.own (own_le o2 hb)⟩, ⟨C, f, dss, rfl, r3, TRow.own (own_le o3 hb)⟩⟩
/-- What comes back: a query's conditions. -/
def NormF (u : World) (x : Nm) (e : Ending) (w' : World) : Prop := ∃ A k B j C c D d E f, e = .returned (.agg (nmC x A k B j C c D d E f)) ∧ Grew u w' ∧ NmR (PRow w') x A B C D E
end Go.Proofs.Ytoaciliojdaoaaa

/- Layer 16: the beginning of a query's conditions. No condition. -/
namespace Go.Proofs.Ytoaciliojdaoaaa
open Go.RowKit
theorem nS_nil (core : Nat) : nS core [] = List.replicate core [] := by
  refine List.ext_getElem (by simp [nS]) fun i h1 h2 => ?_
  simp [nS, nT]
theorem of_start {u v : World} {g core : Nat} (hb : Blok v g 37 #[.int .i64 core, .slice none 0 0, .slice none 0 0, .slice none 0 0, .slice none 0 0, .slice none 0 0]) (hg : Grew u v) (hu : u.heap.size ≤ g) (hc : core ≤ 1000000) :
    Nst noP u v ((v.setCell ⟨g, 1, none⟩ (.slice (some ⟨v.heap.size, 0, none⟩) core core)).alloc (.cells (madeCells #[.slice none 0 0] core) 22)) v.heap.size g core (nS core []) (nE core []) (nR core []) (nW core []) (some ⟨v.heap.size, 0, none⟩) core (List.replicate core (.slice none 0 0)) (.slice none 0 0) (.slice none 0 0) (.slice none 0 0) (.slice none 0 0) := by
  have hl := hb.lt
  have hm : (madeCells #[Value.slice none 0 0] core).toList = List.replicate core (.slice none 0 0) := toList_madeCells_one _ _
  have hsz : (madeCells #[Value.slice none 0 0] core).size = core := by
    have := congrArg List.length hm
    simpa using this
  have ho := own_lit (v.setCell ⟨g, 1, none⟩ (.slice (some ⟨v.heap.size, 0, none⟩) core core)) v.heap.size 22 1 core v.heap.size (madeCells #[.slice none 0 0] core) (by rw [World.size_setCell]) (Nat.le_refl _) (by rw [hsz, Nat.mul_one]) hc
  rw [hm] at ho
  refine ⟨?_, ?_, ?_, ?_, ((hg.setCell hu _).alloc _), by rw [World.size_alloc, World.size_setCell]; omega, ⟨hu, hl⟩, fun i hi hn => ?_, fun _ hp => hp.elim, fun _ _ _ _ hp => hp⟩
  · rw [List.length_replicate]
    exact (hb.set 1 _).alloc _
  · rw [List.length_replicate]
    exact ho
  · rw [nS_nil]
    exact Bins.nil u _ v.heap.size (core + 2)
  · exact EdSl.nil _ _
  · rw [heap_grew ((Grew.refl _).alloc _) (by rw [World.size_setCell]; exact hi), heap_set _ _ hn]
theorem trow_set {B g : Nat} {w : World} {e : TypeId} {A : Option Addr} {xs : List Value} (h : TRow B w e A xs) (hg : g < B) (j : Nat) (y : Value) : TRow B (w.setCell ⟨g, j, none⟩ y) e A xs :=
  h.block fun b _ hb _ => heap_set _ _ (by show b ≠ g; omega)
/-- One more table behind the core. -/
theorem LaSl.put {u w w' : World} {base g : Nat} {AL : Option Addr} {cL : Nat} {l : List La} {css : List (List Value)} (hc : ListR (LaU u w base) 5 l css) (ho0 : w.ownsRow base 72 5 (.slice AL l.length cL) l.length css.flatten) {x : La} {cs : List Value} (hx : LaU u w base x cs) (hcs : cs.length = 5) {A' : Option Addr} {c' : Nat}
    (ho : w'.ownsRow base 72 5 (.slice A' (l.length + 1) c') (l.length + 1) (css.flatten ++ cs)) (hgb : w.grownBy w' (Value.slice AL l.length cL).ownBlock) (hg : g < base) (y : Value) : LaSl u (w'.setCell ⟨g, 4, none⟩ y) base (.slice A' (l.length + 1) c') (l ++ [x]) := by
  have e : (l ++ [x]).length = l.length + 1 := by simp
  have hm : ∀ x cs, LaU u w base x cs → LaU u (w'.setCell ⟨g, 4, none⟩ y) base x cs := fun x cs h =>
    h.map (fun _ _ q => trow_set (q.grown ho0 (by decide) hgb) hg _ _) (fun _ _ q => trow_set (q.grown ho0 (by decide) hgb) hg _ _)
  refine ⟨A', c', css ++ [cs], by rw [e], (hc.map fun x cs h => hm x cs h).snoc (hm _ _ hx) hcs, ?_⟩
  rw [e, List.flatten_append]
  have := ownsRow_setCell_below ho (a := ⟨g, 4, none⟩) hg y
  simpa using this
theorem ExT.exs {u w : World} {base : Nat} {v : Value} {l : List Ex} (h : ExT u w base v l) (g : Grew u w) : ∃ A c, v = .slice A l.length c ∧ ExsR (PRow w) A l := by
  obtain ⟨A, c, css, e, h1, h2⟩ := h
  exact ⟨A, c, e, css, h1.map fun x cs hx => hx.grew g, h2.plain⟩
theorem ExSl.exs {u w : World} {base : Nat} {v : Value} {l : List Ex} (h : ExSl u w base v l) (g : Grew u w) : ∃ A c, v = .slice A l.length c ∧ ExsR (PRow w) A l := by
  obtain ⟨A, c, e, css, h1, h2⟩ := h
  obtain ⟨A', c', e', h3⟩ := own_row h2
  injection e' with e' _ _
  subst e'
  exact ⟨A, c, e, css, h1.map fun x cs hx => hx.grew g, h3⟩
theorem flat_one (vs : List Value) : (vs.map fun v => [v]).flatten = vs := by
  induction vs with
  | nil => rfl
  | cons v vs ih => simp [ih]
/-- What comes back, out of what was put together. -/
theorem norm_done {pr : Nat → Prop} {u v w w' : World} {base g : Nat} {core : Int} {sc : List (List Ex)} {es : List Ed} {rs wh : List Ex} {A : Option Addr} {k : Nat} {vs : List Value} {vE vR vL vW : Value} {lts : List La}
    (h : Nst pr u v w base g core sc es rs wh A k vs vE vR vL vW) (hl : LaSl u w base vL lts) (hw : ∀ i, base ≤ i → w'.heap[i]? = w.heap[i]?) (hg : Grew u w') :
    NormF u ⟨core, sc, es, rs, lts, wh⟩ (.returned (.agg #[.int .i64 core, .slice A vs.length k, vE, vR, vL, vW])) w' := by
  have hk : ∀ {e size n v xs}, w.ownsRow base e size v n xs → w'.ownsRow base e size v n xs := fun {e size n v xs} ho => own_same ho fun i hi => hw i (own_base ho i hi)
  have hex : ∀ {v l}, ExSl u w base v l → ∃ A c, v = .slice A l.length c ∧ ExsR (PRow w') A l := fun {v l} hx => (hx.keep fun xs ho => hk ho).exs hg
  obtain ⟨B, j, rfl, hB⟩ := (show EdSl w' base vE es by obtain ⟨A, c, e, ho⟩ := h.edges; exact ⟨A, c, e, hk ho⟩).eds
  obtain ⟨C, c, rfl, hC⟩ := hex (h.bins.each 0 vR rs rfl rfl)
  obtain ⟨E, f, rfl, hE⟩ := hex (h.bins.each 1 vW wh rfl rfl)
  obtain ⟨D, d, css, rfl, h1, h2⟩ := hl
  have hsz := h.sizes
  refine ⟨A, k, B, j, C, c, D, d, E, f, by unfold nmC; rw [hsz], hg, ?_, hB, hC, ?_, hE⟩
  · refine ⟨vs.map fun v => [v], ⟨by simp [hsz], fun i x cs hx hcs => ?_⟩, ?_⟩
    · rw [List.getElem?_map] at hcs
      cases hv : vs[i]? with
      | none => rw [hv] at hcs; cases hcs
      | some y =>
        rw [hv] at hcs
        injection hcs with hcs
        subst hcs
        obtain ⟨A', c', e, hx'⟩ := hex (h.bins.each (i + 2) y x (by simpa using hv) (by simpa using hx))
        subst e
        exact ⟨⟨A', c', rfl, hx'⟩, rfl⟩
    · rw [flat_one]
      obtain ⟨A', c', e', h3⟩ := own_row (hk h.outer)
      injection e' with e' _ _
      subst e'
      exact h3
  · have ht : ∀ {e A xs}, TRow base w e A xs → TRow base w' e A xs := fun {e A xs} q => q.block fun b _ hb _ => hw b hb
    refine ⟨css, h1.map fun x cs hx => ?_, ?_⟩
    · obtain ⟨vK, vS, vR, rfl, ⟨a1, c1, rfl, q1⟩, hS, hR⟩ := hx.map (fun _ _ q => ht q) (fun _ _ q => ht q)
      obtain ⟨a2, c2, rfl, q2⟩ := hS.exs hg
      obtain ⟨a3, c3, rfl, q3⟩ := hR.exs hg
      exact ⟨a1, c1, a2, c2, a3, c3, rfl, ⟨_, listR_eds _, q1.plain⟩, q2, q3⟩
    · obtain ⟨A', c', e', h3⟩ := own_row (hk h2)
      injection e' with e' _ _
      subst e'
      exact h3
end Go.Proofs.Ytoaciliojdaoaaa

/- Layer 16: a query's conditions, by the program. Condition: a query that lies in memory that is there, of no more than a thousand sources of no more than two hundred parts each. -/
namespace Go.Proofs.Ytoaciliojdaoaaa
open Go.RowKit
attribute [local go_sem] more_cell more_frozen more_more more_setCell more_of_drew more_of_drewN lt_more le_more past_cell past_cell2 past_frozen past_frozen2 past_setCell past_setCell2 mid_cell mid_frozen mid_setCell
attribute [local go_sem ↓] Go.wp_at_zero Go.wp_at_succ

def OfAt (u v : World) (base g core : Nat) (sr : List Fr) (A : Option Addr) (k : Nat) (i : Value) (wr : World) : Prop :=
  ∃ (q : Nat) (vs : List Value) (vE vR vW : Value), 1 ≤ q ∧ (q ≤ core ∨ q = 1) ∧ i = .int .i64 q ∧ Nst noP u v wr base g core (nS core (allP sr q)) (nE core (allP sr q)) (nR core (allP sr q)) (nW core (allP sr q)) A k vs vE vR (.slice none 0 0) vW
def InAt (pr : Nat → Prop) (u v : World) (base g core : Nat) (l0 m : List Ex) (A : Option Addr) (k : Nat) (i : Value) (wr : World) : Prop :=
  ∃ (q : Nat) (vs : List Value) (vE vR vW : Value), q ≤ m.length ∧ i = .int .i64 q ∧ Nst pr u v wr base g core (nS core (l0 ++ m.take q)) (nE core (l0 ++ m.take q)) (nR core (l0 ++ m.take q)) (nW core (l0 ++ m.take q)) A k vs vE vR (.slice none 0 0) vW
theorem qy_in {w : World} {g : Nat} {it : List Ex} {sr : List Fr} {wh : Ex} {gr : List Ex} {A : Option Addr} {k : Nat} {B : Option Addr} {j : Nat} {C : Option Addr} {c : Nat} {D : Option Addr} {d : Nat} (h : Blok w g 29 (qyC it sr wh gr A k B j C c D d)) :
    g < w.heap.size ∧ w.cell? ⟨g, 0, none⟩ = some (.slice A it.length k) ∧ w.cell? ⟨g, 1, none⟩ = some (.slice B sr.length j) ∧ w.cell? ⟨g, 2, none⟩ = some (.int .i64 wh.op) ∧ w.cell? ⟨g, 3, none⟩ = some (.string wh.tab) ∧ w.cell? ⟨g, 4, none⟩ = some (.string wh.name) ∧ w.cell? ⟨g, 5, none⟩ = some (.int .i64 wh.t) ∧ w.cell? ⟨g, 6, none⟩ = some (.int .i64 wh.c) ∧ w.cell? ⟨g, 7, none⟩ = some (.int .i64 wh.vk) ∧ w.cell? ⟨g, 8, none⟩ = some (.int .i64 wh.vi) ∧ w.cell? ⟨g, 9, none⟩ = some (.string wh.vs) ∧ w.cell? ⟨g, 10, none⟩ = some (.slice C wh.l.length c) ∧ w.cell? ⟨g, 11, none⟩ = some (.slice D gr.length d) :=
  ⟨h.lt, h.cell 0, h.cell 1, h.cell 2, h.cell 3, h.cell 4, h.cell 5, h.cell 6, h.cell 7, h.cell 8, h.cell 9, h.cell 10, h.cell 11⟩
/-- The tables behind the core, one by one. -/
def LtsAt (N : Value → World → Prop) (u : World) (base : Nat) (sr : List Fr) (core : Nat) (i : Value) (wr : World) : Prop :=
  ∃ (q : Nat) (vL : Value), core + q ≤ sr.length ∧ i = .int .i64 ((core + q : Nat) : Int) ∧ N vL wr ∧ LaSl u wr base vL (latesX sr core q)
theorem latesX_succ {sr : List Fr} {core q : Nat} (h : core + q < sr.length) : latesX sr core (q + 1) = latesX sr core q ++ [lateX sr[core + q] ((core + q : Nat) : Int)] := by
  unfold latesX
  rw [List.range_succ, List.map_append]
  simp [List.getD, h]
theorem latesX_len (sr : List Fr) (core q : Nat) : (latesX sr core q).length = q := by simp [latesX]
end Go.Proofs.Ytoaciliojdaoaaa

/- Layer 16: the page's example. No condition. -/
namespace Go.Proofs.Ytoaciliojdaoaaa
open Go.RowKit
attribute [local go_sem] more_cell more_frozen more_more more_setCell more_of_drew more_of_drewN lt_more le_more past_cell past_cell2 past_frozen past_frozen2 past_setCell past_setCell2 mid_cell mid_frozen mid_setCell
attribute [local go_sem ↓] Go.wp_at_zero Go.wp_at_succ

def c16 (t : Int) : Ex := .mk 15 ⟨#[]⟩ ⟨#[]⟩ t 0 0 0 ⟨#[]⟩ []
def e16 : Ex := .mk 1 ⟨#[]⟩ ⟨#[]⟩ 0 0 0 0 ⟨#[]⟩ [c16 0, c16 1]
def z16 : Ex := .mk 0 ⟨#[]⟩ ⟨#[]⟩ 0 0 0 0 ⟨#[]⟩ []
def w16 : Ex := .mk 13 ⟨#[]⟩ ⟨#[]⟩ 0 0 0 0 ⟨#[]⟩ [c16 1]
def s16 : List Fr := [⟨0, ⟨#[97]⟩, ⟨#[]⟩, z16⟩, ⟨1, ⟨#[98]⟩, ⟨#[]⟩, e16⟩]
theorem use_e16 : useX e16 = [0, 1] := by
  unfold useX
  have : e16.cols.map Ex.t = [0, 1] := by
    rw [cols_out (by decide)]
    simp [e16, Ex.l, colsE, c16, Ex.cols, Ex.t]
  rw [this]
  exact setI_self (by unfold Rising; decide)
theorem use_w16 : useX w16 = [1] := by
  unfold useX
  have : w16.cols.map Ex.t = [1] := by
    rw [cols_out (by decide)]
    simp [w16, Ex.l, colsE, c16, Ex.cols, Ex.t]
  rw [this]
  exact setI_self (by unfold Rising; decide)
theorem wh_e16 : whereI e16 2 = 3 := by
  unfold whereI
  rw [use_e16]
  have h2 : (edgeP e16).2 = true := by decide
  rw [h2]
  decide
theorem wh_w16 : whereI w16 2 = 2 := by
  unfold whereI
  rw [use_w16]
  decide
theorem core16 : coreN s16 = 2 := by decide
theorem all16 : allX s16 w16 2 = [e16, w16] := by
  have h1 : partsX e16 = [e16] := partsX_one (by decide) (Or.inl (by decide))
  have h2 : partsX w16 = [w16] := partsX_one (by decide) (Or.inl (by decide))
  unfold allX allP
  simp only [s16, List.take_succ_cons, List.take_zero, List.drop_succ_cons, List.drop_zero, List.map_cons, List.map_nil, List.flatten_cons, List.flatten_nil]
  rw [h1, h2]
  rfl
theorem norm16 : (normX s16 w16).core = 2 ∧ (normX s16 w16).edges.length = 1 ∧ ∃ a b, (normX s16 w16).scan = [a, b] ∧ b.length = 1 := by
  unfold normX
  rw [core16, all16]
  refine ⟨rfl, ?_, _, _, rfl, ?_⟩
  · unfold nE
    simp [wh_e16, wh_w16]
  · unfold nT onlyT
    simp [wh_e16, wh_w16, use_w16]
theorem nodes16 : ∀ f ∈ s16, f.on.nodes ≤ 200 := by
  intro f hf
  simp only [s16, List.mem_cons, List.not_mem_nil, or_false] at hf
  rcases hf with rfl | rfl <;> decide
theorem two16 {R : Rw} {a b : Ex} (ha : ExsR R none a.l) (hb : ExsR R none b.l) : ListR (ExR R) 9 [a, b] [exC a none 0, exC b none 0] := by
  have := listR_append (listR_single ha 0) (listR_single hb 0)
  simpa using this
def fr16c (b1 : Nat) : List Value := (Value.int .i64 0 :: .string ⟨#[97]⟩ :: .string ⟨#[]⟩ :: exC z16 none 0) ++ (Value.int .i64 1 :: .string ⟨#[98]⟩ :: .string ⟨#[]⟩ :: exC e16 (some ⟨b1, 0, none⟩) 2)
theorem fr16 {R : Rw} {b1 : Nat} (hz : ExsR R none z16.l) (he : ExsR R (some ⟨b1, 0, none⟩) e16.l) : ListR (FrR R) 12 s16 [Value.int .i64 0 :: .string ⟨#[97]⟩ :: .string ⟨#[]⟩ :: exC z16 none 0, Value.int .i64 1 :: .string ⟨#[98]⟩ :: .string ⟨#[]⟩ :: exC e16 (some ⟨b1, 0, none⟩) 2] := by
  have h := ((ListR.nil (R := FrR R) (size := 12)).snoc (x := ⟨0, ⟨#[97]⟩, ⟨#[]⟩, z16⟩) ⟨none, 0, rfl, hz⟩ rfl).snoc (x := ⟨1, ⟨#[98]⟩, ⟨#[]⟩, e16⟩) ⟨_, 2, rfl, he⟩ rfl
  exact h
end Go.Proofs.Ytoaciliojdaoaaa

/- Layer 16: a row beside those of a query's conditions; one more table's row. No condition. -/
namespace Go.Proofs.Ytoaciliojdaoaaa
open Go.RowKit

theorem Bins.snoc {u w : World} {base : Nat} {vs : List Value} {ls : List (List Ex)} (h : Bins u w base vs ls) {v : Value} {l : List Ex} (hx : ExSl u w base v l) (hap : ∀ i, v.ownBlock = some i → ∀ x, x ∈ vs → x.ownBlock ≠ some i) : Bins u w base (vs ++ [v]) (ls ++ [l]) := by
  refine ⟨by simp [h.len], fun j y m hy hm => ?_, fun a b y y' hab hy hy' => ?_⟩
  · rcases Nat.lt_or_ge j vs.length with hj | hj
    · rw [List.getElem?_append_left hj] at hy
      rw [List.getElem?_append_left (by rw [← h.len]; exact hj)] at hm
      exact h.each j y m hy hm
    · rw [List.getElem?_append_right hj] at hy
      rw [List.getElem?_append_right (by rw [← h.len]; exact hj), ← h.len] at hm
      generalize j - vs.length = q at *
      cases q with
      | zero =>
        simp at hy hm
        subst hy hm
        exact hx
      | succ q => simp at hy
  · rcases Nat.lt_or_ge a vs.length with ha | ha
    · rw [List.getElem?_append_left ha] at hy
      rcases Nat.lt_or_ge b vs.length with hb | hb
      · rw [List.getElem?_append_left hb] at hy'
        exact h.apart a b y y' hab hy hy'
      · rw [List.getElem?_append_right hb] at hy'
        have e : y' = v := by
          generalize b - vs.length = q at *
          cases q with
          | zero => simpa using hy'.symm
          | succ q => simp at hy'
        subst e
        intro i hi hi'
        exact hap i hi' y (List.mem_of_getElem? hy) hi
    · rw [List.getElem?_append_right ha] at hy
      have e : y = v := by
        generalize a - vs.length = q at *
        cases q with
        | zero => simpa using hy.symm
        | succ q => simp at hy
      subst e
      rcases Nat.lt_or_ge b vs.length with hb | hb
      · rw [List.getElem?_append_left hb] at hy'
        intro i hi hi'
        exact hap i hi y' (List.mem_of_getElem? hy') hi'
      · have h1 := (List.getElem?_eq_some_iff.1 hy').1
        have h2 := (List.getElem?_eq_some_iff.1 hy).1
        simp at h1 h2
        omega
section
variable {pr : Nat → Prop} {u v w w' : World} {base g : Nat} {core : Int} {sc : List (List Ex)} {es : List Ed} {rs wh : List Ex} {A : Option Addr} {k : Nat} {vs : List Value} {vE vR vL vW : Value}
/-- A row of expressions beside them. -/
def Beside (pr : Nat → Prop) (u w : World) (base : Nat) (vR vW : Value) (vs : List Value) (vl : Value) (l : List Ex) : Prop :=
  ExSl u w base vl l ∧ ∀ i, vl.ownBlock = some i → ¬ pr i ∧ ∀ x, x ∈ vR :: vW :: vs → x.ownBlock ≠ some i
theorem Beside.nil (pr : Nat → Prop) (u w : World) (base : Nat) (vR vW : Value) (vs : List Value) : Beside pr u w base vR vW vs (.slice none 0 0) [] := ⟨ExSl.nil _ _ _, fun i h => by cases h⟩
theorem Nst.side (h : Nst pr u v w base g core sc es rs wh A k vs vE vR vL vW) {vl : Value} {n : Nat} {xs : List Value} (hv : w.ownsRow base 27 9 vl n xs) (hap : ∀ i, vl.ownBlock = some i → ¬ pr i ∧ ∀ x, x ∈ vR :: vW :: vs → x.ownBlock ≠ some i) (hgb : w.grownBy w' vl.ownBlock) :
    Nst pr u v w' base g core sc es rs wh A k vs vE vR vL vW := by
  have hb := own_base hv
  obtain ⟨l1, l2⟩ := h.low
  obtain ⟨B, c, e, hk⟩ := h.edges
  refine ⟨h.blk.grown hgb fun e => by have := hb g e; omega, own_grown h.outer hgb fun b hb' e => type_apart h.outer hv (by decide) b hb' e.symm, h.bins.keep fun j y l hy _ xs hx => own_grown hx hgb fun b hb' e => (hap b e.symm).2 y (List.mem_of_getElem? hy) hb', ⟨B, c, e, own_grown hk hgb fun b hb' e => type_apart hk hv (by decide) b hb' e.symm⟩, h.grew.grown hgb fun b hb' => by have := hb b hb'; omega, Nat.le_trans h.size hgb.size, h.low, fun i hi hn => ?_, fun i hi => ?_, h.apart⟩
  · rw [hgb.block i (Nat.lt_of_lt_of_le hi h.size) (fun e => by have := hb i e.symm; omega)]
    exact h.kept i hi hn
  · obtain ⟨h1, h2, h3⟩ := h.safe i hi
    exact ⟨h1, Nat.lt_of_lt_of_le h2 hgb.size, by rw [hgb.block i h2 (fun e => (hap i e.symm).1 hi)]; exact h3⟩
theorem Beside.put (h : Nst pr u v w base g core sc es rs wh A k vs vE vR vL vW) {vl : Value} {l : List Ex} (hb : Beside pr u w base vR vW vs vl l) {v' : Value} {l' : List Ex} (hx : ExSl u w' base v' l') (hor : v'.ownBlock = vl.ownBlock ∨ v'.ownBlock = some w.heap.size) : Beside pr u w' base vR vW vs v' l' := by
  refine ⟨hx, fun i hi => ?_⟩
  rcases hor with e | e
  · exact hb.2 i (by rw [← e]; exact hi)
  · rw [e] at hi
    cases hi
    refine ⟨fun hp => Nat.lt_irrefl _ (h.safe _ hp).2.1, fun x hx' he => ?_⟩
    have hlt : w.heap.size < w.heap.size := h.lts x (by
      simp only [List.mem_cons] at hx' ⊢
      rcases hx' with q | q | q
      · exact Or.inr (Or.inr (Or.inl q))
      · exact Or.inr (Or.inr (Or.inr (Or.inl q)))
      · exact Or.inr (Or.inr (Or.inr (Or.inr q)))) _ he
    exact Nat.lt_irrefl _ hlt
theorem Beside.more {vl : Value} {l : List Ex} (hb : Beside pr u w base vR vW vs vl l) (g : Grew w w') : Beside pr u w' base vR vW vs vl l := ⟨hb.1.grew g, hb.2⟩
/-- One more table's row. -/
theorem Nst.putO (h : Nst pr u v w base g core sc es rs wh A k vs vE vR vL vW) {vl : Value} {l : List Ex} (hb : Beside pr u w base vR vW vs vl l) {A' : Option Addr} {c' : Nat}
    (ho : w'.ownsRow base 22 1 (.slice A' (vs.length + 1) c') (vs.length + 1) (vs ++ [vl])) (hgb : w.grownBy w' (Value.slice A vs.length k).ownBlock) (hor : (Value.slice A' (vs.length + 1) c').ownBlock = (Value.slice A vs.length k).ownBlock ∨ (Value.slice A' (vs.length + 1) c').ownBlock = some w.heap.size) :
    Nst pr u v (w'.setCell ⟨g, 1, none⟩ (.slice A' (vs.length + 1) c')) base g core (sc ++ [l]) es rs wh A' c' (vs ++ [vl]) vE vR vL vW := by
  have hbb := own_base h.outer
  have l2 := h.low.2
  obtain ⟨B, c, e, hk⟩ := h.edges
  have el : (vs ++ [vl]).length = vs.length + 1 := by simp
  obtain ⟨n1, n2, n3⟩ := kept_next h hgb hbb 1 (.slice A' (vs.length + 1) c')
  have hbs := (((h.bins.snoc hb.1 fun i hi x hx => (hb.2 i hi).2 x hx).other h.outer (by decide) hgb).far (p := ⟨g, 1, none⟩) l2 (.slice A' (vs.length + 1) c'))
  refine ⟨by rw [el]; exact (h.blk.grown hgb fun e => by have := hbb g e; omega).set 1 _, by rw [el]; exact ownsRow_setCell_below ho l2 _, by simpa using hbs, ⟨B, c, e, ownsRow_setCell_below (own_grown hk hgb fun b hb' e => type_apart hk h.outer (by decide) b hb' e.symm) l2 _⟩, n1, n2, h.low, n3, safe_next h hgb (h.apart _ (by simp)) (g_apart h) _, fun y hy => ?_⟩
  simp only [List.mem_cons, List.mem_append, List.not_mem_nil, or_false] at hy
  rcases hy with rfl | rfl | rfl | rfl | hy | rfl
  · rw [el]; exact apart_new h (h.apart (.slice A vs.length k) (by simp)) hor
  · exact h.apart _ (by simp)
  · exact h.apart _ (by simp)
  · exact h.apart _ (by simp)
  · exact h.apart _ (by simp [hy])
  · exact fun i hi => (hb.2 i hi).1
end
end Go.Proofs.Ytoaciliojdaoaaa

/- Layer 16: a query's conditions, by the document. Condition: a query that lies in memory that is there, of no more than a thousand sources of no more than two hundred parts each. -/
namespace Go.Proofs.Ytoaciliojdaoaaa
open Go.RowKit
attribute [local go_sem] more_cell more_frozen more_more more_setCell more_of_drew more_of_drewN lt_more le_more past_cell past_cell2 past_frozen past_frozen2 past_setCell past_setCell2 mid_cell mid_frozen mid_setCell
attribute [local go_sem ↓] Go.wp_at_zero Go.wp_at_succ

def AllAt (u v : World) (core : Nat) (sr : List Fr) (a i : Value) (wr : World) : Prop :=
  ∃ (q n : Nat) (A : Option Addr) (c : Nat), 1 ≤ q ∧ (q ≤ core ∨ q = 1) ∧ i = .int .i64 q ∧ a = .slice A n c ∧ n = (allP sr q).length ∧ ExOwn u wr v.heap.size A c (allP sr q) ∧ Grew v wr
theorem rof_start {u v : World} {base g n c : Nat} {core : Int} {A : Option Addr} {xs : List Value} (hb : Blok v g 37 #[.int .i64 core, .slice none 0 0, .slice none 0 0, .slice none 0 0, .slice none 0 0, .slice none 0 0]) (hg : Grew u v) (hu : u.heap.size ≤ g) (hgb : g < base) (hbs : base ≤ v.heap.size) (ho : v.ownsRow base 27 9 (.slice A n c) n xs) :
    Nst (fun i => (Value.slice A n c).ownBlock = some i) u v v base g core [] [] [] [] none 0 [] (.slice none 0 0) (.slice none 0 0) (.slice none 0 0) (.slice none 0 0) :=
  ⟨hb, own_none _ _ _ _, Bins.nil u v base 2, EdSl.nil _ _, hg, hbs, ⟨hu, hgb⟩, fun _ _ _ => rfl, fun i hi => ⟨by have := own_base ho i hi; omega, own_lt ho i hi, rfl⟩, fun x hx i hi => by
    simp only [List.mem_cons, List.not_mem_nil, or_false] at hx
    rcases hx with rfl | rfl | rfl | rfl <;> cases hi⟩
theorem Nst.free {pr : Nat → Prop} {u v w : World} {base g : Nat} {core : Int} {sc : List (List Ex)} {es : List Ed} {rs wh : List Ex} {A : Option Addr} {k : Nat} {vs : List Value} {vE vR vL vW : Value} (h : Nst pr u v w base g core sc es rs wh A k vs vE vR vL vW) : Nst noP u v w base g core sc es rs wh A k vs vE vR vL vW :=
  ⟨h.blk, h.outer, h.bins, h.edges, h.grew, h.size, h.low, h.kept, fun _ hp => hp.elim, fun _ _ _ _ hp => hp⟩
theorem where_two {x : Ex} {core : Int} (h : whereI x core = 2) : ∃ v, useX x = [v] := by
  unfold whereI at h
  split at h
  · omega
  · split at h
    · rename_i h1
      exact List.length_eq_one_iff.1 h1
    · split at h <;> omega
def TAt (pr : Nat → Prop) (u v : World) (base g core : Nat) (l : List Ex) (i : Value) (wr : World) : Prop :=
  ∃ (q : Nat) (vs : List Value) (A : Option Addr) (k : Nat), q ≤ core ∧ i = .int .i64 q ∧ Nst pr u v wr base g core ((List.range q).map fun t : Nat => nT core t l) [] [] [] A k vs (.slice none 0 0) (.slice none 0 0) (.slice none 0 0) (.slice none 0 0)
theorem where_cases (x : Ex) (core : Int) : whereI x core = 0 ∨ whereI x core = 1 ∨ whereI x core = 2 ∨ whereI x core = 3 := by
  unfold whereI
  split
  · omega
  · split
    · omega
    · split <;> omega
def PAt (pr : Nat → Prop) (u v : World) (base g core : Nat) (l : List Ex) (A : Option Addr) (k : Nat) (vs : List Value) (i : Value) (wr : World) : Prop :=
  ∃ (j : Nat) (vE vR vW : Value), j ≤ l.length ∧ i = .int .i64 j ∧ Nst pr u v wr base g core (nS core l) (nE core (l.take j)) (nR core (l.take j)) (nW core (l.take j)) A k vs vE vR (.slice none 0 0) vW
def LAt (pr : Nat → Prop) (u v : World) (base g core q : Nat) (l : List Ex) (sc : List (List Ex)) (A : Option Addr) (k : Nat) (vs : List Value) (a i : Value) (wr : World) : Prop :=
  ∃ (j : Nat) (vl : Value), j ≤ l.length ∧ i = .int .i64 j ∧ a = vl ∧ Nst pr u v wr base g core sc [] [] [] A k vs (.slice none 0 0) (.slice none 0 0) (.slice none 0 0) (.slice none 0 0) ∧ Beside pr u wr base (.slice none 0 0) (.slice none 0 0) vs vl (nT core q (l.take j))
set_option maxHeartbeats 16000000 in
set_option maxRecDepth 100000 in
theorem nrof_any (it : List Ex) (sr : List Fr) (wh : Ex) (gr : List Ex) (A : Option Addr) (k : Nat) (B : Option Addr) (j : Nat) (C : Option Addr) (c : Nat) (D : Option Addr) (d : Nat) (w : World)
    (hs : sr.length ≤ 1000) (hn : ∀ f ∈ sr, f.on.nodes ≤ 200) (hw : wh.nodes ≤ 200) (rB : FrsR (PRow w) B sr) (rC : ExsR (PRow w) C wh.l) :
    Calls Try.prog 8 #[.agg (qyC it sr wh gr A k B j C c D d)] w (NormF w (normX sr wh)) := by
  have HCo : Hid (∀ W, Grew w W → Gives Try.prog 23 #[.agg (qyC it sr wh gr A k B j C c D d)] W (.int .i64 (coreN sr))) := Lib.hid fun W hW => rcore_any it sr wh gr A k B j C c D d W (by omega) (rB.grew hW)
  have HRB := Lib.hid rB
  have HRC := Lib.hid rC
  have hcs : coreN sr ≤ sr.length := coreN_le sr
  obtain ⟨fin, hfin⟩ : ∃ fin, normX sr wh = fin := ⟨_, rfl⟩
  have HF := Lib.hid hfin
  unfold normX at HF
  rw [hfin]
  clear rB rC hfin
  generalize coreN sr = core at *
  unfold qyC at *
  go_enter Try.func8, Try.ntmps8
  go_upto_region 2 with (go_at_call 23; (with_reducible refine (HCo.out _ (((Grew.refl w).alloc _).alloc _)).grows.mono ?_); rintro e w2 ⟨rfl, hg2⟩; have HB1 : Hid (Blok w2 w.heap.size 29 (qyC it sr wh gr A k B j C c D d)) := Lib.hid (((Blok.new _ _ _ _ (by rfl)).alloc _).grew hg2); have HB2 : Hid (Blok w2 (w.heap.size + 1) 37 #[.int .i64 0, .slice none 0 0, .slice none 0 0, .slice none 0 0, .slice none 0 0, .slice none 0 0]) := Lib.hid ((Blok.new _ _ _ _ (by simp)).grew hg2); have HG2 : Hid (Grew w w2) := Lib.hid ((((Grew.refl w).alloc _).alloc _).trans hg2); clear hg2)
  have HGb : Hid (Blok (w2.alloc (.cells #[.int .i64 core, .slice none 0 0, .slice none 0 0, .slice none 0 0, .slice none 0 0, .slice none 0 0] 37)) w2.heap.size 37 #[.int .i64 core, .slice none 0 0, .slice none 0 0, .slice none 0 0, .slice none 0 0, .slice none 0 0]) := Lib.hid (Blok.new _ _ _ _ rfl)
  have HB1' := Lib.hid (HB1.out.alloc (.cells #[.int .i64 core, .slice none 0 0, .slice none 0 0, .slice none 0 0, .slice none 0 0, .slice none 0 0] 37))
  have HB2' := Lib.hid (HB2.out.alloc (.cells #[.int .i64 core, .slice none 0 0, .slice none 0 0, .slice none 0 0, .slice none 0 0, .slice none 0 0] 37))
  have HG2' := Lib.hid (HG2.out.alloc (.cells #[.int .i64 core, .slice none 0 0, .slice none 0 0, .slice none 0 0, .slice none 0 0, .slice none 0 0] 37))
  have hug : w.heap.size ≤ w2.heap.size := HG2.out.size
  have hb1g : w.heap.size < w2.heap.size := HB1.out.lt
  have hb2g : w.heap.size + 1 < w2.heap.size := HB2.out.lt
  clear HB1 HB2 HG2 HCo
  generalize (w2.alloc (.cells #[.int .i64 core, .slice none 0 0, .slice none 0 0, .slice none 0 0, .slice none 0 0, .slice none 0 0] 37)) = W3 at *
  generalize w2.heap.size = g at *
  have hg3 : g < W3.heap.size := HGb.out.lt
  have hlP := allP_len sr hn
  go_upto_region 4 with fail
  go_loopw [4, 5] (fun a i wr => AllAt w W3 core sr a i wr) (fun _ i _ => core - (intOf i).toNat)
  case atStart => exact ⟨1, 0, none, 0, Nat.le_refl _, Or.inr rfl, rfl, rfl, by rw [allP_one]; rfl, by rw [allP_one]; exact ⟨[], ListR.nil, own_none _ _ _ _⟩, Grew.refl _⟩
  case round =>
    obtain ⟨q, n, Aa, ca, hq1, hq2, rfl, rfl, hnl, hoa, hga⟩ := hrel
    have HG := Lib.hid hga
    obtain ⟨css, hcss, hroa⟩ := hoa
    have HC1 := Lib.hid hcss
    have HO := Lib.hid hroa
    have c0 : wr.cell? ⟨g, 0, none⟩ = some (.int .i64 core) := (HGb.out.grew hga).cell 0
    have hgl : g < wr.heap.size := (HGb.out.grew hga).lt
    obtain ⟨xl, x0, x1, x2, x3, x4, x5, x6, x7, x8, x9, x10, x11⟩ := qy_in (HB1'.out.grew hga)
    clear hga hcss hroa
    have hlq := hlP q
    rw [← hnl] at HO hlq
    by_cases h : q < core
    · have hqs : q < sr.length := by omega
      obtain ⟨bf, of, PF, kf, rfl, hpf, h9f, _, _, _⟩ := frsR_at HRB.out hqs
      obtain ⟨p0, a0, a1, a2, a3, a4, a5, a6, a7, a8⟩ := h9f.grew (HG2'.out.trans HG.out)
      have HP : Hid (∀ W, Grew w W → Calls Try.prog 24 #[exV sr[q].on PF kf] W (ColsF w W (partsX sr[q].on))) := Lib.hid fun W hW => rparts_ex _ sr[q].on (Nat.lt_succ_self _) PF kf w W (Nat.le_trans (hn _ (List.getElem_mem hqs)) (by decide)) hW hpf
      have HAl := Lib.hid (allP_succ sr hq1 hqs)
      have hml : (partsX sr[q].on).length ≤ 200 := Nat.le_trans (partsX_len _) (hn _ (List.getElem_mem hqs))
      clear h9f hpf
      have HNl := Lib.hid hnl
      clear hnl
      generalize partsX sr[q].on = m at *
      generalize sr[q].on = y at *
      unfold exV at HP
      go_wp2_with (first | (go_at_call 24; (with_reducible refine (HP.out _ (HG2'.out.trans HG.out)).mono ?_); rintro e W5 ⟨A5, k5, rfl, hg5, dss, hd1, hd2⟩; have HG5 := Lib.hid (HG.out.trans hg5); have HO5 := Lib.hid (own_grewE HO.out hg5); have HD1 := Lib.hid hd1; have HD2 := Lib.hid hd2; have hdl := hd1.flat; have HD3 := Lib.hid (listR_one hd1); clear hg5 hd1 hd2) | (at_builtin; refine wpList_apps rfl (.tmp 23) (.tmp 30) 22 27 9 rfl W3 (.agg #[.int .i64 0, .string ⟨#[]⟩, .string ⟨#[]⟩, .int .i64 0, .int .i64 0, .int .i64 0, .int .i64 0, .string ⟨#[]⟩, .slice none 0 0]) 112 Try.underlying22 infoE rfl (by decide) (by decide) _ n css.flatten rfl HO5.out A5 m.length k5 dss.flatten rfl hdl HD2.out HD3.out (by omega) HG5.out ?_; intro A6 c6 w6 ho6 _ hg6 _ _; have HO6 := Lib.hid ho6; have HG6 := Lib.hid hg6; clear ho6 hg6))
      exact ⟨⟨q + 1, n + m.length, A6, c6, by omega, by omega, by go_num, rfl, by rw [HAl.out, List.length_append, HNl.out], by rw [HAl.out]; exact ExOwn.app HC1.out HD1.out (by rw [← HNl.out]; exact HO6.out), HG6.out⟩, by simp only [intOf]; omega⟩
    · have hqc : allP sr q = allP sr core := by
        rcases hq2 with hq2 | hq2
        · rw [show q = core by omega]
        · subst hq2
          have : core = 0 ∨ core = 1 := by omega
          rcases this with e | e
          · rw [e, allP_one]; rfl
          · rw [e]
      rw [hqc] at HC1 hnl
      have HP : Hid (∀ W, Grew w W → Calls Try.prog 24 #[exV wh C c] W (ColsF w W (partsX wh))) := Lib.hid fun W hW => rparts_ex _ wh (Nat.lt_succ_self _) C c w W (by omega) hW HRC.out
      have hax : allX sr wh core = allP sr core ++ partsX wh := rfl
      have hml : (partsX wh).length ≤ 200 := Nat.le_trans (partsX_len _) hw
      have hmn : ∀ y ∈ partsX wh, y.nodes ≤ 200 := fun y hy => Nat.le_trans (partsX_nodes _ y hy) hw
      have hlq' := hlP core
      have HNl := Lib.hid hnl
      clear hnl
      generalize partsX wh = m at *
      unfold exV at HP
      go_upto_region 8 with (first | (go_at_call 24; (with_reducible refine (HP.out _ (HG2'.out.trans HG.out)).mono ?_); rintro e W5 ⟨A5, k5, rfl, hg5, dss, hd1, hd2⟩; have HG5 := Lib.hid (HG.out.trans hg5); have HO5 := Lib.hid (own_grewE HO.out hg5); have HD1 := Lib.hid hd1; have HD2 := Lib.hid hd2; have hdl := hd1.flat; have HD3 := Lib.hid (listR_one hd1); clear hg5 hd1 hd2) | (at_builtin; refine wpList_apps rfl (.tmp 32) (.tmp 35) 22 27 9 rfl W3 (.agg #[.int .i64 0, .string ⟨#[]⟩, .string ⟨#[]⟩, .int .i64 0, .int .i64 0, .int .i64 0, .int .i64 0, .string ⟨#[]⟩, .slice none 0 0]) 112 Try.underlying22 infoE rfl (by decide) (by decide) _ n css.flatten rfl HO5.out A5 m.length k5 dss.flatten rfl hdl HD2.out HD3.out (by omega) HG5.out ?_; intro A6 c6 w6 ho6 _ hg6 _ _; have HO6 := Lib.hid ho6; have HG6 := Lib.hid hg6; clear ho6 hg6))
      have HXa : Hid (ExOwn w w6 W3.heap.size A6 c6 (allP sr core ++ m)) := Lib.hid (ExOwn.app HC1.out HD1.out (by rw [← HNl.out]; exact HO6.out))
      have hyn : ∀ y ∈ allP sr core ++ m, y.nodes ≤ 200 := fun y hy => by
        rcases List.mem_append.1 hy with hy | hy
        · exact allP_nodes sr hn core y hy
        · exact hmn y hy
      have hll : n + m.length = (allP sr core ++ m).length := by rw [List.length_append, HNl.out]
      have hl6 : (allP sr core ++ m).length ≤ 300000 := by omega
      rw [hll]
      rw [hll] at HO6
      rw [← hax] at hyn HXa HO6 hl6 ⊢
      clear HC1 HO HNl HD1 HD2 HD3 HO5 HG5 HP hll hax hdl
      generalize allX sr wh core = l at *
      have HS0 := Lib.hid (rof_start (HGb.out.grew HG6.out) (HG2'.out.trans HG6.out) hug hg3 HG6.out.size HO6.out)
      obtain ⟨csl, hcl, hol⟩ := HXa.out
      have HCl := Lib.hid hcl
      have HOl := Lib.hid hol
      clear hcl hol HXa HO6 HG
      go_upto_region 9 with fail
      go_loopw [6] (fun i wr => TAt (fun i => (Value.slice A6 l.length c6).ownBlock = some i) w w6 W3.heap.size g core l i wr) (fun i _ => core - (intOf i).toNat)
      case atStart => exact ⟨0, [], none, 0, Nat.zero_le _, rfl, HS0.out⟩
      case round =>
        obtain ⟨q3, vs, AS, kS, hq3, rfl, hN3⟩ := hrel
        have HN3 := Lib.hid hN3
        clear hN3
        have c0 : wr.cell? ⟨g, 0, none⟩ = some (.int .i64 core) := HN3.out.blk.cell 0
        have hgl : g < wr.heap.size := HN3.out.blk.lt
        by_cases h3 : q3 < core
        · have HSc : Hid (((List.range q3).map fun t : Nat => nT core t l) ++ [nT core q3 l] = (List.range (q3 + 1)).map fun t : Nat => nT core t l) := Lib.hid (by rw [List.range_succ, List.map_append]; rfl)
          have hsc : ((List.range q3).map fun t : Nat => nT core t l).length ≤ 1000 := by simp; omega
          generalize ((List.range q3).map fun t : Nat => nT core t l) = sc at *
          go_upto_region 13 with fail
          clear c0 hgl
          go_loopw [7, 8] (fun a i wr => LAt (fun i => (Value.slice A6 l.length c6).ownBlock = some i) w w6 W3.heap.size g core q3 l sc AS kS vs a i wr) (fun _ i _ => l.length - (intOf i).toNat)
          case atStart => exact ⟨0, _, Nat.zero_le _, rfl, rfl, HN3.out, Beside.nil _ _ _ _ _ _ _⟩
          case round =>
            obtain ⟨j4, vl, hj4, rfl, rfl, hN4, hB4⟩ := hrel
            have HN4 := Lib.hid hN4
            have HB4 := Lib.hid hB4
            clear hN4 hB4
            by_cases h4 : j4 < l.length
            · have hX : ExsU w wr A6 l := (show ExOwn w wr _ A6 c6 l from ⟨csl, HCl.out, own_same HOl.out fun i hi => (HN4.out.safe i hi).2.2⟩).u
              obtain ⟨ba, oa, PA, ka, rfl, hpa, h9⟩ := exsU_nine hX h4
              have HA9 := Lib.hid h9
              have HPA := Lib.hid hpa
              have hy2 := hyn _ (List.getElem_mem h4)
              have HWh : Hid (∀ W, Grew w W → Gives Try.prog 25 #[exV l[j4] PA ka, .int .i64 core] W (.int .i64 (whereI l[j4] core))) := Lib.hid fun W hW => rwhere_any l[j4] core PA ka (by omega) W (hpa.grew hW)
              have HUs : Hid (∀ W, Grew w W → Calls Try.prog 26 #[exV l[j4] PA ka] W (SetF W (useX l[j4]))) := Lib.hid fun W hW => ruses_any l[j4] PA ka (by omega) W (hpa.grew hW)
              have HSn : Hid (nT core q3 (l.take (j4 + 1)) = nT core q3 (l.take j4) ++ if whereI l[j4] core = 2 ∧ useX l[j4] = [(q3 : Int)] then [l[j4]] else []) := Lib.hid (by rw [List.take_succ_eq_append_getElem h4, nT_snoc])
              have hlt : (nT core q3 (l.take j4)).length ≤ 300000 := Nat.le_trans (List.length_filter_le _ _) (by rw [List.length_take]; omega)
              have hw2 := where_two (x := l[j4]) (core := core)
              clear hX h9 hpa hy2
              generalize nT core q3 (l.take j4) = lt at *
              generalize l[j4] = y at *
              generalize whereI y core = wi at *
              generalize useX y = us at *
              unfold exV at HWh HUs
              have ht4 : (j4 : Int) < (l.length : Int) := by omega
              go_upto_region 15 with fail
              have hS0 : Grew wr wr.drew := (Grew.refl wr).drew
              by_cases hwi : wi = 2
              · obtain ⟨v, rfl⟩ := hw2 hwi
                subst hwi
                clear hw2
                by_cases hvq : v = (q3 : Int)
                · have hvq' : (v == (q3 : Int)) = true := by simpa using hvq
                  refine wp_region_S (fun W => Grew wr W) (by kernel_rfl) ?_
                  refine held_take 0 (v := ?_) rfl (by kernel_rfl) (by kernel_rfl) (by kernel_rfl) (fun _ _ _ h => h) (by rfl) ?_ hS0 ?_
                  rotate_left
                  · (intro W hW; go_simp; with_reducible rfl)
                  refine held_take 1 (v := ?_) rfl (by kernel_rfl) (by kernel_rfl) (by kernel_rfl) (fun _ _ _ h => h) (by rfl) ?_ hS0 ?_
                  rotate_left
                  · (intro W hW; go_simp; with_reducible rfl)
                  refine held_take 2 (v := ?_) rfl (by kernel_rfl) (by kernel_rfl) (by kernel_rfl) (fun _ _ _ h => h) (by rfl) ?_ hS0 ?_
                  rotate_left
                  · (intro W hW; go_simp; with_reducible rfl)
                  refine held_norm (a' := ?_) ?_ ?_
                  rotate_left
                  · (go_simp; with_reducible rfl)
                  refine held_take 3 (v := ?_) rfl (by kernel_rfl) (by kernel_rfl) (by kernel_rfl) (fun _ _ _ h => h) (by rfl) ?_ hS0 ?_
                  rotate_left
                  · (intro W hW; obtain ⟨p0, a0, a1, a2, a3, a4, a5, a6, a7, a8⟩ := HA9.out.grew hW; go_simp; with_reducible rfl)
                  refine held_norm (a' := ?_) ?_ ?_
                  rotate_left
                  · (go_simp; with_reducible rfl)
                  refine held_take 4 (v := ?_) rfl (by kernel_rfl) (by kernel_rfl) (by kernel_rfl) (fun _ _ _ h => h) (by rfl) ?_ hS0 ?_
                  rotate_left
                  · (intro W hW; go_simp; with_reducible rfl)
                  refine held_norm (a' := ?_) ?_ ?_
                  rotate_left
                  · (go_simp; with_reducible rfl)
                  refine held_take 5 (v := ?_) rfl (by kernel_rfl) (by kernel_rfl) (by kernel_rfl) (fun _ _ _ h => h) (by rfl) ?_ hS0 ?_
                  rotate_left
                  · (intro W hW; have q := (HN4.out.blk.grew hW).cell 0; have ql := (HN4.out.blk.grew hW).lt; simp at q; go_simp; with_reducible rfl)
                  refine held_norm (a' := ?_) ?_ ?_
                  rotate_left
                  · (go_simp; with_reducible rfl)
                  refine held_call 6 (by kernel_rfl) rfl (by rfl) (fun K hK => ?_)
                  go_simp
                  go_wp2_with ((go_at_call 25; (with_reducible refine (HWh.out _ (HN4.out.grew.trans hS0)).grows.mono ?_); rintro e w8 ⟨rfl, hg8⟩; have hS8 : Grew wr w8 := hS0.trans hg8))
                  refine hK.out _ _ hS8 ?_
                  clear hK K
                  refine held_take 7 (v := ?_) rfl (by kernel_rfl) (by kernel_rfl) (by kernel_rfl) (fun _ _ _ h => h) (by rfl) ?_ hS8 ?_
                  rotate_left
                  · (intro W hW; go_simp; with_reducible rfl)
                  refine held_take 8 (v := ?_) rfl (by kernel_rfl) (by kernel_rfl) (by kernel_rfl) (fun _ _ _ h => h) (by rfl) ?_ hS8 ?_
                  rotate_left
                  · (intro W hW; go_simp; with_reducible rfl)
                  refine held_take 9 (v := ?_) rfl (by kernel_rfl) (by kernel_rfl) (by kernel_rfl) (fun _ _ _ h => h) (by rfl) ?_ hS8 ?_
                  rotate_left
                  · (intro W hW; go_simp; with_reducible rfl)
                  refine held_take 10 (v := ?_) rfl (by kernel_rfl) (by kernel_rfl) (by kernel_rfl) (fun _ _ _ h => h) (by rfl) ?_ hS8 ?_
                  rotate_left
                  · (intro W hW; go_simp; with_reducible rfl)
                  refine held_take 11 (v := ?_) rfl (by kernel_rfl) (by kernel_rfl) (by kernel_rfl) (fun _ _ _ h => h) (by rfl) ?_ hS8 ?_
                  rotate_left
                  · (intro W hW; go_simp; with_reducible rfl)
                  refine held_norm (a' := ?_) ?_ ?_
                  rotate_left
                  · (go_simp; with_reducible rfl)
                  refine held_take 12 (v := ?_) rfl (by kernel_rfl) (by kernel_rfl) (by kernel_rfl) (fun _ _ _ h => h) (by rfl) ?_ hS8 ?_
                  rotate_left
                  · (intro W hW; obtain ⟨p0, a0, a1, a2, a3, a4, a5, a6, a7, a8⟩ := HA9.out.grew hW; go_simp; with_reducible rfl)
                  refine held_norm (a' := ?_) ?_ ?_
                  rotate_left
                  · (go_simp; with_reducible rfl)
                  refine held_take 16 (v := ?_) rfl (by kernel_rfl) (by kernel_rfl) (by kernel_rfl) (fun _ _ _ h => h) (by rfl) ?_ hS8 ?_
                  rotate_left
                  · (intro W hW; go_simp; with_reducible rfl)
                  refine held_norm (a' := ?_) ?_ ?_
                  rotate_left
                  · (go_simp; with_reducible rfl)
                  refine held_call 13 (by kernel_rfl) rfl (by rfl) (fun K hK => ?_)
                  go_simp
                  go_wp2_with ((go_at_call 26; (with_reducible refine (HUs.out _ (HN4.out.grew.trans hS8)).mono ?_); rintro e w9 ⟨B9, k9, rfl, hk9, hg9, hr9⟩; have hS9 : Grew wr w9 := hS8.trans hg9))
                  refine hK.out _ _ hS9 ?_
                  clear hK K
                  obtain ⟨bu, ou, rfl, hbu, hcu⟩ := rowI_at hr9 (j := 0) (by simp)
                  simp only [List.getElem_cons_zero, Nat.add_zero] at hcu
                  simp only [List.length_cons, List.length_nil, Nat.zero_add]
                  refine held_take 14 (v := ?_) rfl (by kernel_rfl) (by kernel_rfl) (by kernel_rfl) (fun _ _ _ h => h) (by rfl) ?_ hS9 ?_
                  rotate_left
                  · (intro W hW; go_simp; with_reducible rfl)
                  refine held_norm (a' := ?_) ?_ ?_
                  rotate_left
                  · (go_simp; with_reducible rfl)
                  refine held_call 15 (by kernel_rfl) rfl (by rfl) (fun K hK => ?_)
                  go_simp
                  go_wp2_with (fail)
                  refine hK.out _ _ hS9 ?_
                  clear hK K
                  refine held_take 17 (v := ?_) rfl (by kernel_rfl) (by kernel_rfl) (by kernel_rfl) (fun _ _ _ h => h) (by rfl) ?_ hS9 ?_
                  rotate_left
                  · (intro W hW; go_simp; with_reducible rfl)
                  refine held_take 18 (v := ?_) rfl (by kernel_rfl) (by kernel_rfl) (by kernel_rfl) (fun _ _ _ h => h) (by rfl) ?_ hS9 ?_
                  rotate_left
                  · (intro W hW; go_simp; with_reducible rfl)
                  refine held_norm (a' := ?_) ?_ ?_
                  rotate_left
                  · (go_simp; with_reducible rfl)
                  refine held_done (by kernel_rfl) ?_
                  have HN9 := Lib.hid (HN4.out.more hS9)
                  have HB9 := Lib.hid (HB4.out.more hS9)
                  obtain ⟨p0, a0, a1, a2, a3, a4, a5, a6, a7, a8⟩ := HA9.out.grew hS9
                  obtain ⟨⟨Al, cl, rfl, csl2, hcl2, hol2⟩, hap⟩ := HB9.out
                  have HOl2 := Lib.hid hol2
                  have HCl2 := Lib.hid hcl2
                  have HAp := Lib.hid hap
                  clear HN4 HB4 hr9 hcu hbu hS8 hS0 hg9 hg8 HA9 HWh HUs hol2 hcl2 hap
                  go_wp2_with (at_builtin; refine wpList_appC rfl (.tmp 68) (.tmp 73) 22 27 9 rfl W3.heap.size (.agg #[.int .i64 0, .string ⟨#[]⟩, .string ⟨#[]⟩, .int .i64 0, .int .i64 0, .int .i64 0, .int .i64 0, .string ⟨#[]⟩, .slice none 0 0]) 112 Try.underlying22 infoE rfl (by decide) (by decide) _ lt.length csl2.flatten rfl (own_alloc HOl2.out _) _ 1 1 (exC y PA ka) rfl rfl (row_new _ _ _ #[.int .i64 y.op, .string y.tab, .string y.name, .int .i64 y.t, .int .i64 y.c, .int .i64 y.vk, .int .i64 y.vi, .string y.vs, .slice PA y.l.length ka] rfl) (exC_one _ _ _) (by omega) (by have := HN9.out.size; simp; omega) ?_; intro A7 c7 w7 ho7 hgb7 hor7; have HNs := Lib.hid ((HN9.out.more ((Grew.refl w9).alloc _)).side (own_alloc HOl2.out _) HAp.out hgb7); have HBs := Lib.hid (Beside.put (HN9.out.more ((Grew.refl w9).alloc _)) (HB9.out.more ((Grew.refl w9).alloc _)) (ExSl.snoc HCl2.out HPA.out ho7) hor7); clear ho7 hgb7 hor7)
                  exact ⟨⟨j4 + 1, _, by omega, by go_num, rfl, HNs.out, by rw [HSn.out, if_pos (by simp [hvq])]; exact HBs.out⟩, by simp only [intOf]; omega⟩
                · have hvq' : (v == (q3 : Int)) = false := by simpa using hvq
                  refine wp_region_S (fun W => Grew wr W) (by kernel_rfl) ?_
                  refine held_take 0 (v := ?_) rfl (by kernel_rfl) (by kernel_rfl) (by kernel_rfl) (fun _ _ _ h => h) (by rfl) ?_ hS0 ?_
                  rotate_left
                  · (intro W hW; go_simp; with_reducible rfl)
                  refine held_take 1 (v := ?_) rfl (by kernel_rfl) (by kernel_rfl) (by kernel_rfl) (fun _ _ _ h => h) (by rfl) ?_ hS0 ?_
                  rotate_left
                  · (intro W hW; go_simp; with_reducible rfl)
                  refine held_take 2 (v := ?_) rfl (by kernel_rfl) (by kernel_rfl) (by kernel_rfl) (fun _ _ _ h => h) (by rfl) ?_ hS0 ?_
                  rotate_left
                  · (intro W hW; go_simp; with_reducible rfl)
                  refine held_norm (a' := ?_) ?_ ?_
                  rotate_left
                  · (go_simp; with_reducible rfl)
                  refine held_take 3 (v := ?_) rfl (by kernel_rfl) (by kernel_rfl) (by kernel_rfl) (fun _ _ _ h => h) (by rfl) ?_ hS0 ?_
                  rotate_left
                  · (intro W hW; obtain ⟨p0, a0, a1, a2, a3, a4, a5, a6, a7, a8⟩ := HA9.out.grew hW; go_simp; with_reducible rfl)
                  refine held_norm (a' := ?_) ?_ ?_
                  rotate_left
                  · (go_simp; with_reducible rfl)
                  refine held_take 4 (v := ?_) rfl (by kernel_rfl) (by kernel_rfl) (by kernel_rfl) (fun _ _ _ h => h) (by rfl) ?_ hS0 ?_
                  rotate_left
                  · (intro W hW; go_simp; with_reducible rfl)
                  refine held_norm (a' := ?_) ?_ ?_
                  rotate_left
                  · (go_simp; with_reducible rfl)
                  refine held_take 5 (v := ?_) rfl (by kernel_rfl) (by kernel_rfl) (by kernel_rfl) (fun _ _ _ h => h) (by rfl) ?_ hS0 ?_
                  rotate_left
                  · (intro W hW; have q := (HN4.out.blk.grew hW).cell 0; have ql := (HN4.out.blk.grew hW).lt; simp at q; go_simp; with_reducible rfl)
                  refine held_norm (a' := ?_) ?_ ?_
                  rotate_left
                  · (go_simp; with_reducible rfl)
                  refine held_call 6 (by kernel_rfl) rfl (by rfl) (fun K hK => ?_)
                  go_simp
                  go_wp2_with ((go_at_call 25; (with_reducible refine (HWh.out _ (HN4.out.grew.trans hS0)).grows.mono ?_); rintro e w8 ⟨rfl, hg8⟩; have hS8 : Grew wr w8 := hS0.trans hg8))
                  refine hK.out _ _ hS8 ?_
                  clear hK K
                  refine held_take 7 (v := ?_) rfl (by kernel_rfl) (by kernel_rfl) (by kernel_rfl) (fun _ _ _ h => h) (by rfl) ?_ hS8 ?_
                  rotate_left
                  · (intro W hW; go_simp; with_reducible rfl)
                  refine held_take 8 (v := ?_) rfl (by kernel_rfl) (by kernel_rfl) (by kernel_rfl) (fun _ _ _ h => h) (by rfl) ?_ hS8 ?_
                  rotate_left
                  · (intro W hW; go_simp; with_reducible rfl)
                  refine held_take 9 (v := ?_) rfl (by kernel_rfl) (by kernel_rfl) (by kernel_rfl) (fun _ _ _ h => h) (by rfl) ?_ hS8 ?_
                  rotate_left
                  · (intro W hW; go_simp; with_reducible rfl)
                  refine held_take 10 (v := ?_) rfl (by kernel_rfl) (by kernel_rfl) (by kernel_rfl) (fun _ _ _ h => h) (by rfl) ?_ hS8 ?_
                  rotate_left
                  · (intro W hW; go_simp; with_reducible rfl)
                  refine held_take 11 (v := ?_) rfl (by kernel_rfl) (by kernel_rfl) (by kernel_rfl) (fun _ _ _ h => h) (by rfl) ?_ hS8 ?_
                  rotate_left
                  · (intro W hW; go_simp; with_reducible rfl)
                  refine held_norm (a' := ?_) ?_ ?_
                  rotate_left
                  · (go_simp; with_reducible rfl)
                  refine held_take 12 (v := ?_) rfl (by kernel_rfl) (by kernel_rfl) (by kernel_rfl) (fun _ _ _ h => h) (by rfl) ?_ hS8 ?_
                  rotate_left
                  · (intro W hW; obtain ⟨p0, a0, a1, a2, a3, a4, a5, a6, a7, a8⟩ := HA9.out.grew hW; go_simp; with_reducible rfl)
                  refine held_norm (a' := ?_) ?_ ?_
                  rotate_left
                  · (go_simp; with_reducible rfl)
                  refine held_take 16 (v := ?_) rfl (by kernel_rfl) (by kernel_rfl) (by kernel_rfl) (fun _ _ _ h => h) (by rfl) ?_ hS8 ?_
                  rotate_left
                  · (intro W hW; go_simp; with_reducible rfl)
                  refine held_norm (a' := ?_) ?_ ?_
                  rotate_left
                  · (go_simp; with_reducible rfl)
                  refine held_call 13 (by kernel_rfl) rfl (by rfl) (fun K hK => ?_)
                  go_simp
                  go_wp2_with ((go_at_call 26; (with_reducible refine (HUs.out _ (HN4.out.grew.trans hS8)).mono ?_); rintro e w9 ⟨B9, k9, rfl, hk9, hg9, hr9⟩; have hS9 : Grew wr w9 := hS8.trans hg9))
                  refine hK.out _ _ hS9 ?_
                  clear hK K
                  obtain ⟨bu, ou, rfl, hbu, hcu⟩ := rowI_at hr9 (j := 0) (by simp)
                  simp only [List.getElem_cons_zero, Nat.add_zero] at hcu
                  simp only [List.length_cons, List.length_nil, Nat.zero_add]
                  refine held_take 14 (v := ?_) rfl (by kernel_rfl) (by kernel_rfl) (by kernel_rfl) (fun _ _ _ h => h) (by rfl) ?_ hS9 ?_
                  rotate_left
                  · (intro W hW; go_simp; with_reducible rfl)
                  refine held_norm (a' := ?_) ?_ ?_
                  rotate_left
                  · (go_simp; with_reducible rfl)
                  refine held_call 15 (by kernel_rfl) rfl (by rfl) (fun K hK => ?_)
                  go_simp
                  go_wp2_with (fail)
                  refine hK.out _ _ hS9 ?_
                  clear hK K
                  refine held_take 17 (v := ?_) rfl (by kernel_rfl) (by kernel_rfl) (by kernel_rfl) (fun _ _ _ h => h) (by rfl) ?_ hS9 ?_
                  rotate_left
                  · (intro W hW; go_simp; with_reducible rfl)
                  refine held_take 18 (v := ?_) rfl (by kernel_rfl) (by kernel_rfl) (by kernel_rfl) (fun _ _ _ h => h) (by rfl) ?_ hS9 ?_
                  rotate_left
                  · (intro W hW; go_simp; with_reducible rfl)
                  refine held_norm (a' := ?_) ?_ ?_
                  rotate_left
                  · (go_simp; with_reducible rfl)
                  refine held_done (by kernel_rfl) ?_
                  have HN9 := Lib.hid (HN4.out.more hS9)
                  have HB9 := Lib.hid (HB4.out.more hS9)
                  clear HN4 HB4 hr9 hcu hbu hS8 hS0 hg9 hg8 HA9 HWh HUs
                  go_wp2
                  exact ⟨⟨j4 + 1, _, by omega, by go_num, rfl, HN9.out, by rw [HSn.out, if_neg (by simp [hvq]), List.append_nil]; exact HB9.out⟩, by simp only [intOf]; omega⟩
              · have hwi' : (wi == 2) = false := by simpa using hwi
                clear hw2
                refine wp_region_S (fun W => Grew wr W) (by kernel_rfl) ?_
                refine held_take 0 (v := ?_) rfl (by kernel_rfl) (by kernel_rfl) (by kernel_rfl) (fun _ _ _ h => h) (by rfl) ?_ hS0 ?_
                rotate_left
                · (intro W hW; go_simp; with_reducible rfl)
                refine held_take 1 (v := ?_) rfl (by kernel_rfl) (by kernel_rfl) (by kernel_rfl) (fun _ _ _ h => h) (by rfl) ?_ hS0 ?_
                rotate_left
                · (intro W hW; go_simp; with_reducible rfl)
                refine held_take 2 (v := ?_) rfl (by kernel_rfl) (by kernel_rfl) (by kernel_rfl) (fun _ _ _ h => h) (by rfl) ?_ hS0 ?_
                rotate_left
                · (intro W hW; go_simp; with_reducible rfl)
                refine held_norm (a' := ?_) ?_ ?_
                rotate_left
                · (go_simp; with_reducible rfl)
                refine held_take 3 (v := ?_) rfl (by kernel_rfl) (by kernel_rfl) (by kernel_rfl) (fun _ _ _ h => h) (by rfl) ?_ hS0 ?_
                rotate_left
                · (intro W hW; obtain ⟨p0, a0, a1, a2, a3, a4, a5, a6, a7, a8⟩ := HA9.out.grew hW; go_simp; with_reducible rfl)
                refine held_norm (a' := ?_) ?_ ?_
                rotate_left
                · (go_simp; with_reducible rfl)
                refine held_take 4 (v := ?_) rfl (by kernel_rfl) (by kernel_rfl) (by kernel_rfl) (fun _ _ _ h => h) (by rfl) ?_ hS0 ?_
                rotate_left
                · (intro W hW; go_simp; with_reducible rfl)
                refine held_norm (a' := ?_) ?_ ?_
                rotate_left
                · (go_simp; with_reducible rfl)
                refine held_take 5 (v := ?_) rfl (by kernel_rfl) (by kernel_rfl) (by kernel_rfl) (fun _ _ _ h => h) (by rfl) ?_ hS0 ?_
                rotate_left
                · (intro W hW; have q := (HN4.out.blk.grew hW).cell 0; have ql := (HN4.out.blk.grew hW).lt; simp at q; go_simp; with_reducible rfl)
                refine held_norm (a' := ?_) ?_ ?_
                rotate_left
                · (go_simp; with_reducible rfl)
                refine held_call 6 (by kernel_rfl) rfl (by rfl) (fun K hK => ?_)
                go_simp
                go_wp2_with ((go_at_call 25; (with_reducible refine (HWh.out _ (HN4.out.grew.trans hS0)).grows.mono ?_); rintro e w8 ⟨rfl, hg8⟩; have hS8 : Grew wr w8 := hS0.trans hg8))
                refine hK.out _ _ hS8 ?_
                clear hK K
                refine held_take 7 (v := ?_) rfl (by kernel_rfl) (by kernel_rfl) (by kernel_rfl) (fun _ _ _ h => h) (by rfl) ?_ hS8 ?_
                rotate_left
                · (intro W hW; go_simp; with_reducible rfl)
                refine held_take 8 (v := ?_) rfl (by kernel_rfl) (by kernel_rfl) (by kernel_rfl) (fun _ _ _ h => h) (by rfl) ?_ hS8 ?_
                rotate_left
                · (intro W hW; go_simp; with_reducible rfl)
                refine held_norm (a' := ?_) ?_ ?_
                rotate_left
                · (go_simp; with_reducible rfl)
                refine held_skip 9 rfl (by kernel_rfl) (by kernel_rfl) (by kernel_rfl) (fun _ _ _ h => h) (by rfl) hS8 ?_
                refine held_norm (a' := ?_) ?_ ?_
                rotate_left
                · (go_simp; with_reducible rfl)
                refine held_skip 10 rfl (by kernel_rfl) (by kernel_rfl) (by kernel_rfl) (fun _ _ _ h => h) (by rfl) hS8 ?_
                refine held_norm (a' := ?_) ?_ ?_
                rotate_left
                · (go_simp; with_reducible rfl)
                refine held_skip 11 rfl (by kernel_rfl) (by kernel_rfl) (by kernel_rfl) (fun _ _ _ h => h) (by rfl) hS8 ?_
                refine held_norm (a' := ?_) ?_ ?_
                rotate_left
                · (go_simp; with_reducible rfl)
                refine held_skip 12 rfl (by kernel_rfl) (by kernel_rfl) (by kernel_rfl) (fun _ _ _ h => h) (by rfl) hS8 ?_
                refine held_norm (a' := ?_) ?_ ?_
                rotate_left
                · (go_simp; with_reducible rfl)
                refine held_skip 13 rfl (by kernel_rfl) (by kernel_rfl) (by kernel_rfl) (fun _ _ _ h => h) (by rfl) hS8 ?_
                refine held_norm (a' := ?_) ?_ ?_
                rotate_left
                · (go_simp; with_reducible rfl)
                refine held_skip 14 rfl (by kernel_rfl) (by kernel_rfl) (by kernel_rfl) (fun _ _ _ h => h) (by rfl) hS8 ?_
                refine held_norm (a' := ?_) ?_ ?_
                rotate_left
                · (go_simp; with_reducible rfl)
                refine held_skip 15 rfl (by kernel_rfl) (by kernel_rfl) (by kernel_rfl) (fun _ _ _ h => h) (by rfl) hS8 ?_
                refine held_norm (a' := ?_) ?_ ?_
                rotate_left
                · (go_simp; with_reducible rfl)
                refine held_skip 16 rfl (by kernel_rfl) (by kernel_rfl) (by kernel_rfl) (fun _ _ _ h => h) (by rfl) hS8 ?_
                refine held_norm (a' := ?_) ?_ ?_
                rotate_left
                · (go_simp; with_reducible rfl)
                refine held_skip 17 rfl (by kernel_rfl) (by kernel_rfl) (by kernel_rfl) (fun _ _ _ h => h) (by rfl) hS8 ?_
                refine held_norm (a' := ?_) ?_ ?_
                rotate_left
                · (go_simp; with_reducible rfl)
                refine held_take 18 (v := ?_) rfl (by kernel_rfl) (by kernel_rfl) (by kernel_rfl) (fun _ _ _ h => h) (by rfl) ?_ hS8 ?_
                rotate_left
                · (intro W hW; go_simp; with_reducible rfl)
                refine held_norm (a' := ?_) ?_ ?_
                rotate_left
                · (go_simp; with_reducible rfl)
                refine held_done (by kernel_rfl) ?_
                have HN9 := Lib.hid (HN4.out.more hS8)
                have HB9 := Lib.hid (HB4.out.more hS8)
                clear HN4 HB4 hS0 hg8 HA9 HWh HUs
                go_wp2
                exact ⟨⟨j4 + 1, _, by omega, by go_num, rfl, HN9.out, by rw [HSn.out, if_neg (fun e => hwi e.1), List.append_nil]; exact HB9.out⟩, by simp only [intOf]; omega⟩
            · obtain rfl : j4 = l.length := by omega
              rw [List.take_length] at HB4
              have c1 : wr.cell? ⟨g, 1, none⟩ = some (.slice AS vs.length kS) := HN4.out.blk.cell 1
              have hgl : g < wr.heap.size := HN4.out.blk.lt
              have HOo := Lib.hid HN4.out.outer
              have hvl6 : vs.length ≤ 1000 := by have := HN4.out.sizes; have := hsc; omega
              obtain ⟨⟨Al, cl, evl, _⟩, _⟩ := HB4.out
              subst evl
              go_wp2_with (at_builtin; refine wpList_appC rfl (.tmp 76) (.tmp 78) 33 22 1 rfl W3.heap.size (.slice none 0 0) 24 Try.underlying33 infoEx rfl (by decide) (by decide) _ vs.length vs rfl (own_alloc HOo.out _) _ 1 1 [.slice Al (nT core q3 l).length cl] rfl rfl (row_one _ _ _ _ rfl) (by simp [Value.oneCell']) (by omega) (by have := HN4.out.size; simp; omega) ?_; intro A7 c7 w7 ho7 hgb7 hor7; have HNo := Lib.hid ((HN4.out.more ((Grew.refl wr).alloc _)).putO (HB4.out.more ((Grew.refl wr).alloc _)) ho7 hgb7 hor7); have hbk := (HN4.out.more ((Grew.refl wr).alloc _)).blk.grown hgb7 (fun e => by have := own_base HOo.out g e; omega); have z1 := hbk.thaw 1; have zc := hbk.cell 1; have zl := hbk.lt; simp at zc; clear hbk ho7 hgb7 hor7)
              exact ⟨⟨q3 + 1, _, _, _, by omega, by go_num, by rw [← HSc.out]; exact HNo.out⟩, by simp only [intOf]; omega⟩
        · obtain rfl : q3 = core := by omega
          change Hid (Nst _ w w6 wr W3.heap.size g q3 (nS q3 l) [] [] [] AS kS vs _ _ _ _) at HN3
          go_upto_region 19 with fail
          clear c0 hgl
          go_loopw [9] (fun i wr => PAt (fun i => (Value.slice A6 l.length c6).ownBlock = some i) w w6 W3.heap.size g q3 l AS kS vs i wr) (fun i _ => l.length - (intOf i).toNat)
          case atStart => exact ⟨0, _, _, _, Nat.zero_le _, rfl, HN3.out⟩
          case round =>
            obtain ⟨j5, vE, vR, vW, hj5, rfl, hN5⟩ := hrel
            have HN5 := Lib.hid hN5
            clear hN5
            by_cases h5 : j5 < l.length
            · have hX : ExsU w wr A6 l := (show ExOwn w wr _ A6 c6 l from ⟨csl, HCl.out, own_same HOl.out fun i hi => (HN5.out.safe i hi).2.2⟩).u
              obtain ⟨ba, oa, PA, ka, rfl, hpa, h9⟩ := exsU_nine hX h5
              have HA9 := Lib.hid h9
              have HPA := Lib.hid hpa
              have hy2 := hyn _ (List.getElem_mem h5)
              have HWh : Hid (∀ W, Grew w W → Gives Try.prog 25 #[exV l[j5] PA ka, .int .i64 (q3 : Int)] W (.int .i64 (whereI l[j5] q3))) := Lib.hid fun W hW => rwhere_any l[j5] q3 PA ka (by omega) W (hpa.grew hW)
              have HEd : Hid (∀ W, Grew w W → Gives Try.prog 27 #[exV l[j5] PA ka] W (.tuple #[edV (edgeP l[j5]).1, .bool (edgeP l[j5]).2])) := Lib.hid fun W hW => redge_any l[j5] PA ka W (hpa.grew hW)
              have HSn : Hid (nE q3 (l.take (j5 + 1)) = nE q3 (l.take j5) ++ (if whereI l[j5] q3 = 3 then [(edgeP l[j5]).1] else []) ∧ nR q3 (l.take (j5 + 1)) = nR q3 (l.take j5) ++ (if whereI l[j5] q3 = 0 then [l[j5]] else []) ∧ nW q3 (l.take (j5 + 1)) = nW q3 (l.take j5) ++ (if whereI l[j5] q3 = 1 then [l[j5]] else [])) := Lib.hid (by rw [List.take_succ_eq_append_getElem h5, nE_snoc, nR_snoc, nW_snoc]; exact ⟨rfl, rfl, rfl⟩)
              have hfl : ∀ p : Ex → Bool, ((l.take j5).filter p).length ≤ 300000 := fun p => Nat.le_trans (List.length_filter_le _ _) (by rw [List.length_take]; omega)
              have hlr : (nR q3 (l.take j5)).length ≤ 300000 := hfl _
              have hlw : (nW q3 (l.take j5)).length ≤ 300000 := hfl _
              have hle : (nE q3 (l.take j5)).length ≤ 300000 := by unfold nE; rw [List.length_map]; exact hfl _
              have hwc := where_cases l[j5] q3
              clear hX h9 hpa hy2 hfl
              generalize nR (q3 : Int) (l.take j5) = lr at *
              generalize nW (q3 : Int) (l.take j5) = lw at *
              generalize nE (q3 : Int) (l.take j5) = le at *
              generalize l[j5] = y at *
              generalize whereI y q3 = wi at *
              generalize edgeP y = ed at *
              obtain ⟨⟨e1, e2, e3, e4⟩, is⟩ := ed
              unfold exV at HWh HEd
              unfold edV at HEd
              have ht5 : (j5 : Int) < (l.length : Int) := by omega
              go_upto_region 21 with fail
              have hS0 : Grew wr wr.drew := (Grew.refl wr).drew
              refine wp_region_S (fun W => Grew wr W) (by kernel_rfl) ?_
              refine held_take 0 (v := ?_) rfl (by kernel_rfl) (by kernel_rfl) (by kernel_rfl) (fun _ _ _ h => h) (by rfl) ?_ hS0 ?_
              rotate_left
              · (intro W hW; go_simp; with_reducible rfl)
              refine held_take 1 (v := ?_) rfl (by kernel_rfl) (by kernel_rfl) (by kernel_rfl) (fun _ _ _ h => h) (by rfl) ?_ hS0 ?_
              rotate_left
              · (intro W hW; go_simp; with_reducible rfl)
              refine held_take 2 (v := ?_) rfl (by kernel_rfl) (by kernel_rfl) (by kernel_rfl) (fun _ _ _ h => h) (by rfl) ?_ hS0 ?_
              rotate_left
              · (intro W hW; go_simp; with_reducible rfl)
              refine held_norm (a' := ?_) ?_ ?_
              rotate_left
              · (go_simp; with_reducible rfl)
              refine held_take 3 (v := ?_) rfl (by kernel_rfl) (by kernel_rfl) (by kernel_rfl) (fun _ _ _ h => h) (by rfl) ?_ hS0 ?_
              rotate_left
              · (intro W hW; obtain ⟨p0, a0, a1, a2, a3, a4, a5, a6, a7, a8⟩ := HA9.out.grew hW; go_simp; with_reducible rfl)
              refine held_norm (a' := ?_) ?_ ?_
              rotate_left
              · (go_simp; with_reducible rfl)
              refine held_take 4 (v := ?_) rfl (by kernel_rfl) (by kernel_rfl) (by kernel_rfl) (fun _ _ _ h => h) (by rfl) ?_ hS0 ?_
              rotate_left
              · (intro W hW; go_simp; with_reducible rfl)
              refine held_norm (a' := ?_) ?_ ?_
              rotate_left
              · (go_simp; with_reducible rfl)
              refine held_take 5 (v := ?_) rfl (by kernel_rfl) (by kernel_rfl) (by kernel_rfl) (fun _ _ _ h => h) (by rfl) ?_ hS0 ?_
              rotate_left
              · (intro W hW; have q := (HN5.out.blk.grew hW).cell 0; have ql := (HN5.out.blk.grew hW).lt; simp at q; go_simp; with_reducible rfl)
              refine held_norm (a' := ?_) ?_ ?_
              rotate_left
              · (go_simp; with_reducible rfl)
              refine held_call 6 (by kernel_rfl) rfl (by rfl) (fun K hK => ?_)
              go_simp
              go_wp2_with ((go_at_call 25; (with_reducible refine (HWh.out _ (HN5.out.grew.trans hS0)).grows.mono ?_); rintro e w8 ⟨rfl, hg8⟩; have hS8 : Grew wr w8 := hS0.trans hg8))
              refine hK.out _ _ hS8 ?_
              clear hK K
              refine held_take 7 (v := ?_) rfl (by kernel_rfl) (by kernel_rfl) (by kernel_rfl) (fun _ _ _ h => h) (by rfl) ?_ hS8 ?_
              rotate_left
              · (intro W hW; go_simp; with_reducible rfl)
              refine held_norm (a' := ?_) ?_ ?_
              rotate_left
              · (go_simp; with_reducible rfl)
              refine held_done (by kernel_rfl) ?_
              have HN9 := Lib.hid (HN5.out.more hS8)
              have HA8 := Lib.hid (HA9.out.grew hS8)
              have hba8 : ba < w8.heap.size := HA8.out.lt
              clear HN5 HA9 hS8 hS0 hg8 HWh
              rcases hwc with rfl | rfl | rfl | rfl
              · obtain ⟨AN, cN, evN, css9, hcs9, hoN⟩ := HN9.out.bins.each 0 vR lr rfl rfl
                subst evN
                have HCS := Lib.hid hcs9
                have HON := Lib.hid hoN
                have hnb : ∀ i, (Value.slice AN lr.length cN).ownBlock = some i → i ≠ ba := fun i hi e => HN9.out.apart _ (by simp) i hi (by rw [e]; rfl)
                have HNb := Lib.hid hnb
                clear hcs9 hoN hnb
                go_upto_region 23 with fail
                have HD := Lib.hid (HN9.out.more (Grew.refl w8).drew)
                have hS1 : Blok w8.drew g 37 #[.int .i64 q3, .slice AS vs.length kS, vE, (.slice AN lr.length cN), .slice none 0 0, vW] ∧ w8.drew.heap[ba]? = w8.heap[ba]? := ⟨HD.out.blk, rfl⟩
                refine wp_region_last (fun W => Blok W g 37 #[.int .i64 q3, .slice AS vs.length kS, vE, (.slice AN lr.length cN), .slice none 0 0, vW] ∧ W.heap[ba]? = w8.heap[ba]?) 9 rfl (by kernel_rfl) ?_
                refine last_take 0 (v := ?_) rfl (by kernel_rfl) (by kernel_rfl) (by kernel_rfl) (by kernel_rfl) (fun _ _ _ h => h) (by rfl) ?_ hS1 ?_
                rotate_left
                · (intro W hW; go_simp; with_reducible rfl)
                refine last_norm (a' := ?_) ?_ ?_
                rotate_left
                · (go_simp; with_reducible rfl)
                refine last_take 1 (v := ?_) rfl (by kernel_rfl) (by kernel_rfl) (by kernel_rfl) (by kernel_rfl) (fun _ _ _ h => h) (by rfl) ?_ hS1 ?_
                rotate_left
                · (intro W hW; have q := hW.1.cell 3; have ql := hW.1.lt; simp at q; go_simp; with_reducible rfl)
                refine last_norm (a' := ?_) ?_ ?_
                rotate_left
                · (go_simp; with_reducible rfl)
                refine last_take 2 (v := ?_) rfl (by kernel_rfl) (by kernel_rfl) (by kernel_rfl) (by kernel_rfl) (fun _ _ _ h => h) (by rfl) ?_ hS1 ?_
                rotate_left
                · (intro W hW; go_simp; with_reducible rfl)
                refine last_take 3 (v := ?_) rfl (by kernel_rfl) (by kernel_rfl) (by kernel_rfl) (by kernel_rfl) (fun _ _ _ h => h) (by rfl) ?_ hS1 ?_
                rotate_left
                · (intro W hW; go_simp; with_reducible rfl)
                refine last_take 4 (v := ?_) rfl (by kernel_rfl) (by kernel_rfl) (by kernel_rfl) (by kernel_rfl) (fun _ _ _ h => h) (by rfl) ?_ hS1 ?_
                rotate_left
                · (intro W hW; go_simp; with_reducible rfl)
                refine last_norm (a' := ?_) ?_ ?_
                rotate_left
                · (go_simp; with_reducible rfl)
                refine last_take 5 (v := ?_) rfl (by kernel_rfl) (by kernel_rfl) (by kernel_rfl) (by kernel_rfl) (fun _ _ _ h => h) (by rfl) ?_ hS1 ?_
                rotate_left
                · (intro W hW; obtain ⟨p0, a0, a1, a2, a3, a4, a5, a6, a7, a8⟩ := HA8.out.kept hW.2; go_simp; with_reducible rfl)
                refine last_norm (a' := ?_) ?_ ?_
                rotate_left
                · (go_simp; with_reducible rfl)
                refine last_call 6 (by kernel_rfl) (by kernel_rfl) rfl (by rfl) (fun K hK => ?_)
                go_simp
                go_wp2_with fail
                have HDa := Lib.hid (HD.out.more ((Grew.refl w8.drew).alloc (.cells #[.int .i64 y.op, .string y.tab, .string y.name, .int .i64 y.t, .int .i64 y.c, .int .i64 y.vk, .int .i64 y.vi, .string y.vs, .slice PA y.l.length ka] 27)))
                have hSa : Blok (w8.drew.alloc (.cells #[.int .i64 y.op, .string y.tab, .string y.name, .int .i64 y.t, .int .i64 y.c, .int .i64 y.vk, .int .i64 y.vi, .string y.vs, .slice PA y.l.length ka] 27)) g 37 #[.int .i64 q3, .slice AS vs.length kS, vE, (.slice AN lr.length cN), .slice none 0 0, vW] ∧ (w8.drew.alloc (.cells #[.int .i64 y.op, .string y.tab, .string y.name, .int .i64 y.t, .int .i64 y.c, .int .i64 y.vk, .int .i64 y.vi, .string y.vs, .slice PA y.l.length ka] 27)).heap[ba]? = w8.heap[ba]? := ⟨HDa.out.blk, heap_grew ((Grew.refl w8.drew).alloc _) hba8⟩
                refine hK.out _ _ hSa ?_
                clear hK K
                refine last_call 7 (by kernel_rfl) (by kernel_rfl) rfl (by rfl) (fun K hK => ?_)
                refine wp_appC (.tmp 97) (.tmp 102) 22 27 9 rfl W3.heap.size (.agg #[.int .i64 0, .string ⟨#[]⟩, .string ⟨#[]⟩, .int .i64 0, .int .i64 0, .int .i64 0, .int .i64 0, .string ⟨#[]⟩, .slice none 0 0]) 112 Try.underlying22 infoE rfl (by decide) (by decide) _ lr.length _ rfl (own_alloc (own_grewE HON.out (Grew.refl w8).drew) _) _ 1 1 (exC y PA ka) rfl rfl (row_new w8.drew _ _ #[.int .i64 y.op, .string y.tab, .string y.name, .int .i64 y.t, .int .i64 y.c, .int .i64 y.vk, .int .i64 y.vi, .string y.vs, .slice PA y.l.length ka] rfl) (exC_one _ _ _) (by omega) HDa.out.size ?_
                intro A7 c7 w7 ho7 hg7 hor7
                have HNf := Lib.hid (HDa.out.putR HCS.out HPA.out ho7 hg7 hor7)
                have hbk := HDa.out.blk.grown hg7 (fun e => by have := own_base HON.out g e; omega)
                have hkb : w7.heap[ba]? = w8.heap[ba]? := (hg7.block ba (Nat.lt_of_lt_of_le hba8 ((Grew.refl w8).drew.alloc _).size) (fun e => HNb.out ba e.symm rfl)).trans hSa.2
                refine hK.out _ _ ⟨hbk, hkb⟩ ?_
                clear hK K
                refine last_take 8 (v := ?_) rfl (by kernel_rfl) (by kernel_rfl) (by kernel_rfl) (by kernel_rfl) (fun _ _ _ h => h) (by rfl) ?_ ⟨hbk, hkb⟩ ?_
                rotate_left
                · (intro W hW; go_simp; with_reducible rfl)
                refine last_norm (a' := ?_) ?_ ?_
                rotate_left
                · (go_simp; with_reducible rfl)
                have z2 := hbk.thaw 3
                have zc := hbk.cell 3
                have zl := hbk.lt
                simp at zc
                refine last_last (by kernel_rfl) (by kernel_rfl) rfl (by rfl) (fun K hK => ?_)
                go_simp
                go_wp2_with fail
                refine hK.out _ _ ?_
                clear hK K hbk hkb hSa hS1 ho7 hg7 hor7 z2 zc zl
                go_wp2
                exact ⟨⟨j5 + 1, _, _, _, by omega, by go_num, by rw [HSn.out.1, HSn.out.2.1, HSn.out.2.2]; simpa using HNf.out⟩, by simp only [intOf]; omega⟩
              · obtain ⟨AN, cN, evN, css9, hcs9, hoN⟩ := HN9.out.bins.each 1 vW lw rfl rfl
                subst evN
                have HCS := Lib.hid hcs9
                have HON := Lib.hid hoN
                have hnb : ∀ i, (Value.slice AN lw.length cN).ownBlock = some i → i ≠ ba := fun i hi e => HN9.out.apart _ (by simp) i hi (by rw [e]; rfl)
                have HNb := Lib.hid hnb
                clear hcs9 hoN hnb
                go_upto_region 25 with fail
                have HD := Lib.hid (HN9.out.more (Grew.refl w8).drew)
                have hS1 : Blok w8.drew g 37 #[.int .i64 q3, .slice AS vs.length kS, vE, vR, .slice none 0 0, (.slice AN lw.length cN)] ∧ w8.drew.heap[ba]? = w8.heap[ba]? := ⟨HD.out.blk, rfl⟩
                refine wp_region_last (fun W => Blok W g 37 #[.int .i64 q3, .slice AS vs.length kS, vE, vR, .slice none 0 0, (.slice AN lw.length cN)] ∧ W.heap[ba]? = w8.heap[ba]?) 9 rfl (by kernel_rfl) ?_
                refine last_take 0 (v := ?_) rfl (by kernel_rfl) (by kernel_rfl) (by kernel_rfl) (by kernel_rfl) (fun _ _ _ h => h) (by rfl) ?_ hS1 ?_
                rotate_left
                · (intro W hW; go_simp; with_reducible rfl)
                refine last_norm (a' := ?_) ?_ ?_
                rotate_left
                · (go_simp; with_reducible rfl)
                refine last_take 1 (v := ?_) rfl (by kernel_rfl) (by kernel_rfl) (by kernel_rfl) (by kernel_rfl) (fun _ _ _ h => h) (by rfl) ?_ hS1 ?_
                rotate_left
                · (intro W hW; have q := hW.1.cell 5; have ql := hW.1.lt; simp at q; go_simp; with_reducible rfl)
                refine last_norm (a' := ?_) ?_ ?_
                rotate_left
                · (go_simp; with_reducible rfl)
                refine last_take 2 (v := ?_) rfl (by kernel_rfl) (by kernel_rfl) (by kernel_rfl) (by kernel_rfl) (fun _ _ _ h => h) (by rfl) ?_ hS1 ?_
                rotate_left
                · (intro W hW; go_simp; with_reducible rfl)
                refine last_take 3 (v := ?_) rfl (by kernel_rfl) (by kernel_rfl) (by kernel_rfl) (by kernel_rfl) (fun _ _ _ h => h) (by rfl) ?_ hS1 ?_
                rotate_left
                · (intro W hW; go_simp; with_reducible rfl)
                refine last_take 4 (v := ?_) rfl (by kernel_rfl) (by kernel_rfl) (by kernel_rfl) (by kernel_rfl) (fun _ _ _ h => h) (by rfl) ?_ hS1 ?_
                rotate_left
                · (intro W hW; go_simp; with_reducible rfl)
                refine last_norm (a' := ?_) ?_ ?_
                rotate_left
                · (go_simp; with_reducible rfl)
                refine last_take 5 (v := ?_) rfl (by kernel_rfl) (by kernel_rfl) (by kernel_rfl) (by kernel_rfl) (fun _ _ _ h => h) (by rfl) ?_ hS1 ?_
                rotate_left
                · (intro W hW; obtain ⟨p0, a0, a1, a2, a3, a4, a5, a6, a7, a8⟩ := HA8.out.kept hW.2; go_simp; with_reducible rfl)
                refine last_norm (a' := ?_) ?_ ?_
                rotate_left
                · (go_simp; with_reducible rfl)
                refine last_call 6 (by kernel_rfl) (by kernel_rfl) rfl (by rfl) (fun K hK => ?_)
                go_simp
                go_wp2_with fail
                have HDa := Lib.hid (HD.out.more ((Grew.refl w8.drew).alloc (.cells #[.int .i64 y.op, .string y.tab, .string y.name, .int .i64 y.t, .int .i64 y.c, .int .i64 y.vk, .int .i64 y.vi, .string y.vs, .slice PA y.l.length ka] 27)))
                have hSa : Blok (w8.drew.alloc (.cells #[.int .i64 y.op, .string y.tab, .string y.name, .int .i64 y.t, .int .i64 y.c, .int .i64 y.vk, .int .i64 y.vi, .string y.vs, .slice PA y.l.length ka] 27)) g 37 #[.int .i64 q3, .slice AS vs.length kS, vE, vR, .slice none 0 0, (.slice AN lw.length cN)] ∧ (w8.drew.alloc (.cells #[.int .i64 y.op, .string y.tab, .string y.name, .int .i64 y.t, .int .i64 y.c, .int .i64 y.vk, .int .i64 y.vi, .string y.vs, .slice PA y.l.length ka] 27)).heap[ba]? = w8.heap[ba]? := ⟨HDa.out.blk, heap_grew ((Grew.refl w8.drew).alloc _) hba8⟩
                refine hK.out _ _ hSa ?_
                clear hK K
                refine last_call 7 (by kernel_rfl) (by kernel_rfl) rfl (by rfl) (fun K hK => ?_)
                refine wp_appC (.tmp 108) (.tmp 113) 22 27 9 rfl W3.heap.size (.agg #[.int .i64 0, .string ⟨#[]⟩, .string ⟨#[]⟩, .int .i64 0, .int .i64 0, .int .i64 0, .int .i64 0, .string ⟨#[]⟩, .slice none 0 0]) 112 Try.underlying22 infoE rfl (by decide) (by decide) _ lw.length _ rfl (own_alloc (own_grewE HON.out (Grew.refl w8).drew) _) _ 1 1 (exC y PA ka) rfl rfl (row_new w8.drew _ _ #[.int .i64 y.op, .string y.tab, .string y.name, .int .i64 y.t, .int .i64 y.c, .int .i64 y.vk, .int .i64 y.vi, .string y.vs, .slice PA y.l.length ka] rfl) (exC_one _ _ _) (by omega) HDa.out.size ?_
                intro A7 c7 w7 ho7 hg7 hor7
                have HNf := Lib.hid (HDa.out.putW HCS.out HPA.out ho7 hg7 hor7)
                have hbk := HDa.out.blk.grown hg7 (fun e => by have := own_base HON.out g e; omega)
                have hkb : w7.heap[ba]? = w8.heap[ba]? := (hg7.block ba (Nat.lt_of_lt_of_le hba8 ((Grew.refl w8).drew.alloc _).size) (fun e => HNb.out ba e.symm rfl)).trans hSa.2
                refine hK.out _ _ ⟨hbk, hkb⟩ ?_
                clear hK K
                refine last_take 8 (v := ?_) rfl (by kernel_rfl) (by kernel_rfl) (by kernel_rfl) (by kernel_rfl) (fun _ _ _ h => h) (by rfl) ?_ ⟨hbk, hkb⟩ ?_
                rotate_left
                · (intro W hW; go_simp; with_reducible rfl)
                refine last_norm (a' := ?_) ?_ ?_
                rotate_left
                · (go_simp; with_reducible rfl)
                have z2 := hbk.thaw 5
                have zc := hbk.cell 5
                have zl := hbk.lt
                simp at zc
                refine last_last (by kernel_rfl) (by kernel_rfl) rfl (by rfl) (fun K hK => ?_)
                go_simp
                go_wp2_with fail
                refine hK.out _ _ ?_
                clear hK K hbk hkb hSa hS1 ho7 hg7 hor7 z2 zc zl
                go_wp2
                exact ⟨⟨j5 + 1, _, _, _, by omega, by go_num, by rw [HSn.out.1, HSn.out.2.1, HSn.out.2.2]; simpa using HNf.out⟩, by simp only [intOf]; omega⟩
              · go_wp2
                exact ⟨⟨j5 + 1, _, _, _, by omega, by go_num, by rw [HSn.out.1, HSn.out.2.1, HSn.out.2.2]; simpa using HN9.out⟩, by simp only [intOf]; omega⟩
              · obtain ⟨AN, cN, evN, hoN⟩ := HN9.out.edges
                subst evN
                have HON := Lib.hid hoN
                clear hoN
                obtain ⟨p0, a0, a1, a2, a3, a4, a5, a6, a7, a8⟩ := HA8.out
                go_upto_region 28 with (go_at_call 27; (with_reducible refine (HEd.out _ HN9.out.grew).grows.mono ?_); rintro e Wb ⟨rfl, hgb⟩; have HGb2 := Lib.hid hgb; clear hgb)
                clear p0 a0 a1 a2 a3 a4 a5 a6 a7 a8
                have HNc := Lib.hid ((HN9.out.more HGb2.out).more ((Grew.refl Wb).alloc (.cells #[.int .i64 e1, .int .i64 e2, .int .i64 e3, .int .i64 e4] 68)))
                have HEc : Hid (Blok (Wb.alloc (.cells #[.int .i64 e1, .int .i64 e2, .int .i64 e3, .int .i64 e4] 68)) Wb.heap.size 68 #[.int .i64 e1, .int .i64 e2, .int .i64 e3, .int .i64 e4]) := Lib.hid (Blok.new _ _ _ _ rfl)
                have HOc := Lib.hid (own_grewE (own_grewE HON.out HGb2.out) ((Grew.refl Wb).alloc (.cells #[.int .i64 e1, .int .i64 e2, .int .i64 e3, .int .i64 e4] 68)))
                clear HON HGb2
                generalize (Wb.alloc (.cells #[.int .i64 e1, .int .i64 e2, .int .i64 e3, .int .i64 e4] 68)) = Wc at *
                generalize Wb.heap.size = bc at *
                obtain ⟨r0, d0, d1, d2, d3, _, _, _, _⟩ := ed_in HEc.out
                have m2 : Wc.cell? ⟨g, 2, none⟩ = some (.slice AN le.length cN) := HNc.out.blk.cell 2
                have hgl : g < Wc.heap.size := HNc.out.blk.lt
                have hsz := HNc.out.size
                go_wp2_with (at_builtin; refine wpList_appC rfl (.tmp 127) (.tmp 129) 34 68 4 rfl W3.heap.size (.agg #[.int .i64 0, .int .i64 0, .int .i64 0, .int .i64 0]) 32 Try.underlying34 infoEd rfl (by decide) (by decide) _ le.length _ rfl (own_alloc HOc.out _) _ 1 1 [.int .i64 e1, .int .i64 e2, .int .i64 e3, .int .i64 e4] rfl rfl (row_new _ _ _ #[.int .i64 e1, .int .i64 e2, .int .i64 e3, .int .i64 e4] (by simp)) (by simp [Value.oneCell']) (by omega) (by simp; omega) ?_; intro A7 c7 w7 ho7 hgb7 hor7; have HNf := Lib.hid ((HNc.out.more ((Grew.refl Wc).alloc _)).putE (e := ⟨e1, e2, e3, e4⟩) ho7 hgb7 hor7); have hbk := ((HNc.out.more ((Grew.refl Wc).alloc _)).blk.grown hgb7 (fun e => by have := own_base HOc.out g e; omega)); have z2 := hbk.thaw 2; have zc := hbk.cell 2; have zl := hbk.lt; simp at zc; clear hbk ho7 hgb7 hor7)
                exact ⟨⟨j5 + 1, _, _, _, by omega, by go_num, by rw [HSn.out.1, HSn.out.2.1, HSn.out.2.2]; simpa using HNf.out⟩, by simp only [intOf]; omega⟩
            · obtain rfl : j5 = l.length := by omega
              rw [List.take_length] at HN5
              have HNe := Lib.hid HN5.out.free
              clear HN5
              have c0 : wr.cell? ⟨g, 0, none⟩ = some (.int .i64 q3) := HNe.out.blk.cell 0
              have hgl : g < wr.heap.size := HNe.out.blk.lt
              go_upto_region 30 with fail
              go_loopw [13] (fun i wr => LtsAt (fun vL W => Nst noP w w6 W W3.heap.size g q3 (nS q3 l) (nE q3 l) (nR q3 l) (nW q3 l) AS kS vs vE vR vL vW) w W3.heap.size sr q3 i wr) (fun i _ => sr.length - (intOf i).toNat)
              case atStart => exact ⟨0, _, by omega, rfl, HNe.out, LaSl.nil _ _ _⟩
              case round =>
                obtain ⟨q2, vL, hq2', rfl, hN2, hL2⟩ := hrel
                have HN2 := Lib.hid hN2
                have HL2 := Lib.hid hL2
                clear hN2 hL2 HNe c0 hgl
                have hbx : Blok wr w.heap.size 29 (qyC it sr wh gr A k B j C c D d) := (HN2.out.kept _ (by omega) (by omega)).trans (HB1'.out.grew HG6.out)
                obtain ⟨xl, x0, x1, x2, x3, x4, x5, x6, x7, x8, x9, x10, x11⟩ := qy_in hbx
                by_cases h2 : q3 + q2 < sr.length
                · have HLs0 : Hid (∀ t (h : t < sr.length), q3 + q2 = t → latesX sr q3 (q2 + 1) = latesX sr q3 q2 ++ [lateX sr[t] (t : Int)]) := Lib.hid (by rintro _ h rfl; exact latesX_succ h)
                  have hll := latesX_len sr q3 q2
                  obtain ⟨t, ht⟩ : ∃ t, q3 + q2 = t := ⟨_, rfl⟩
                  have h2t : t < sr.length := by omega
                  have HLs := Lib.hid (HLs0.out t h2t ht)
                  clear HLs0
                  simp only [ht]
                  obtain ⟨bf, of, PF, kf, rfl, hpf, hbf, hcf⟩ := frsR_all HRB.out h2t
                  have ht2 : (t : Int) < (sr.length : Int) := by omega
                  go_upto_region 32 with fail
                  have HLt : Hid (∀ W, Grew w W → Calls Try.prog 28 #[frV sr[t] PF kf, .int .i64 (t : Int)] W (LateF w W (lateX sr[t] (t : Int)))) := Lib.hid fun W hW => rlate_any sr[t] _ PF kf (Nat.le_trans (hn _ (List.getElem_mem h2t)) (by decide)) w W hW hpf
                  obtain ⟨AL, cL, css, rfl, hLc, hLo⟩ := HL2.out
                  have HLc := Lib.hid hLc
                  have HLo := Lib.hid hLo
                  have f0 : w.cell? ⟨bf, of + t * 12, none⟩ = _ := hcf 0 _ rfl
                  have f1 := hcf 1 _ rfl
                  have f2 := hcf 2 _ rfl
                  have f3 := hcf 3 _ rfl
                  have f4 := hcf 4 _ rfl
                  have f5 := hcf 5 _ rfl
                  have f6 := hcf 6 _ rfl
                  have f7 := hcf 7 _ rfl
                  have f8 := hcf 8 _ rfl
                  have f9 := hcf 9 _ rfl
                  have f10 := hcf 10 _ rfl
                  have f11 := hcf 11 _ rfl
                  clear hcf hpf hLc hLo HL2 x0 x1 x2 x3 x4 x5 x6 x7 x8 x9 x10 x11
                  generalize lateX sr[t] (t : Int) = y at *
                  generalize latesX sr q3 q2 = lts at *
                  generalize sr[t] = fr at *
                  have ht2 : (t : Int) < (sr.length : Int) := by omega
                  unfold frV at HLt
                  have hq1000 : lts.length ≤ 1000 := by omega
                  clear hll
                  have hbx2 := hbx
                  clear hbx
                  have HD := Lib.hid (HN2.out.more (Grew.refl wr).drew)
                  have hS0 : Blok wr.drew g 37 #[.int .i64 q3, .slice AS vs.length kS, vE, vR, .slice AL lts.length cL, vW] ∧ Blok wr.drew w.heap.size 29 (qyC it sr wh gr A k (some ⟨bf, of, none⟩) j C c D d) ∧ Grew w wr.drew := ⟨HD.out.blk, hbx2.grew (Grew.refl wr).drew, HD.out.grew⟩
                  refine wp_region_last (fun W => Blok W g 37 #[.int .i64 q3, .slice AS vs.length kS, vE, vR, .slice AL lts.length cL, vW] ∧ Blok W w.heap.size 29 (qyC it sr wh gr A k (some ⟨bf, of, none⟩) j C c D d) ∧ Grew w W) 12 rfl (by kernel_rfl) ?_
                  refine last_take 0 (v := ?_) rfl (by kernel_rfl) (by kernel_rfl) (by kernel_rfl) (by kernel_rfl) (fun _ _ _ h => h) (by rfl) ?_ hS0 ?_
                  rotate_left
                  · (intro W hW; go_simp; with_reducible rfl)
                  refine last_norm (a' := ?_) ?_ ?_
                  rotate_left
                  · (go_simp; with_reducible rfl)
                  refine last_take 1 (v := ?_) rfl (by kernel_rfl) (by kernel_rfl) (by kernel_rfl) (by kernel_rfl) (fun _ _ _ h => h) (by rfl) ?_ hS0 ?_
                  rotate_left
                  · (intro W hW; have q := hW.1.cell 4; have ql := hW.1.lt; simp at q; go_simp; with_reducible rfl)
                  refine last_norm (a' := ?_) ?_ ?_
                  rotate_left
                  · (go_simp; with_reducible rfl)
                  refine last_take 2 (v := ?_) rfl (by kernel_rfl) (by kernel_rfl) (by kernel_rfl) (by kernel_rfl) (fun _ _ _ h => h) (by rfl) ?_ hS0 ?_
                  rotate_left
                  · (intro W hW; go_simp; with_reducible rfl)
                  refine last_norm (a' := ?_) ?_ ?_
                  rotate_left
                  · (go_simp; with_reducible rfl)
                  refine last_take 3 (v := ?_) rfl (by kernel_rfl) (by kernel_rfl) (by kernel_rfl) (by kernel_rfl) (fun _ _ _ h => h) (by rfl) ?_ hS0 ?_
                  rotate_left
                  · (intro W hW; obtain ⟨xl, x0, x1, x2, x3, x4, x5, x6, x7, x8, x9, x10, x11⟩ := qy_in hW.2.1; go_simp; with_reducible rfl)
                  refine last_norm (a' := ?_) ?_ ?_
                  rotate_left
                  · (go_simp; with_reducible rfl)
                  refine last_take 4 (v := ?_) rfl (by kernel_rfl) (by kernel_rfl) (by kernel_rfl) (by kernel_rfl) (fun _ _ _ h => h) (by rfl) ?_ hS0 ?_
                  rotate_left
                  · (intro W hW; go_simp; with_reducible rfl)
                  refine last_take 5 (v := ?_) rfl (by kernel_rfl) (by kernel_rfl) (by kernel_rfl) (by kernel_rfl) (fun _ _ _ h => h) (by rfl) ?_ hS0 ?_
                  rotate_left
                  · (intro W hW; go_simp; with_reducible rfl)
                  refine last_norm (a' := ?_) ?_ ?_
                  rotate_left
                  · (go_simp; with_reducible rfl)
                  refine last_take 6 (v := ?_) rfl (by kernel_rfl) (by kernel_rfl) (by kernel_rfl) (by kernel_rfl) (fun _ _ _ h => h) (by rfl) ?_ hS0 ?_
                  rotate_left
                  · (intro W hW; have e0 := cell_keep hW.2.2 hbf (f0); have e1 := cell_keep hW.2.2 hbf (f1); have e2 := cell_keep hW.2.2 hbf (f2); have e3 := cell_keep hW.2.2 hbf (f3); have e4 := cell_keep hW.2.2 hbf (f4); have e5 := cell_keep hW.2.2 hbf (f5); have e6 := cell_keep hW.2.2 hbf (f6); have e7 := cell_keep hW.2.2 hbf (f7); have e8 := cell_keep hW.2.2 hbf (f8); have e9 := cell_keep hW.2.2 hbf (f9); have e10 := cell_keep hW.2.2 hbf (f10); have e11 := cell_keep hW.2.2 hbf (f11); have el := Nat.lt_of_lt_of_le hbf (Grew.size hW.2.2); go_simp; with_reducible rfl)
                  refine last_norm (a' := ?_) ?_ ?_
                  rotate_left
                  · (go_simp; with_reducible rfl)
                  refine last_take 7 (v := ?_) rfl (by kernel_rfl) (by kernel_rfl) (by kernel_rfl) (by kernel_rfl) (fun _ _ _ h => h) (by rfl) ?_ hS0 ?_
                  rotate_left
                  · (intro W hW; go_simp; with_reducible rfl)
                  refine last_norm (a' := ?_) ?_ ?_
                  rotate_left
                  · (go_simp; with_reducible rfl)
                  refine last_call 8 (by kernel_rfl) (by kernel_rfl) rfl (by rfl) (fun K hK => ?_)
                  go_simp
                  go_wp2_with ((go_at_call 28; go_loud (with_reducible refine (HLt.out _ HD.out.grew).mono ?_); go_loud (rintro e w6 ⟨vK, vS, vR1, rfl, hg6, hK6, hB6⟩); have HN6 := Lib.hid (HD.out.more hg6); have hS6 : Blok w6 g 37 #[.int .i64 q3, .slice AS vs.length kS, vE, vR, .slice AL lts.length cL, vW] ∧ Blok w6 w.heap.size 29 (qyC it sr wh gr A k (some ⟨bf, of, none⟩) j C c D d) ∧ Grew w w6 := ⟨HN6.out.blk, hS0.2.1.grew hg6, HN6.out.grew⟩))
                  refine hK.out _ _ hS6 ?_
                  clear hK K
                  have HE6 := Lib.hid (late_elem (base := W3.heap.size) HD.out.size hK6 hB6)
                  obtain ⟨AK, cK, eK, _⟩ := hK6
                  obtain ⟨AS2, cS2, eS2, _⟩ := hB6.each 0 vS y.scan rfl rfl
                  obtain ⟨AR2, cR2, eR2, _⟩ := hB6.each 1 vR1 y.rest rfl rfl
                  subst eK eS2 eR2
                  have HLc6 : Hid (ListR (LaU w w6 W3.heap.size) 5 lts css) := Lib.hid (HLc.out.map fun x cs hx => hx.map (fun _ _ q => (q.grew (Grew.refl wr).drew).grew hg6) (fun _ _ q => (q.grew (Grew.refl wr).drew).grew hg6))
                  have HLo6 := Lib.hid (own_grewE (own_grewE HLo.out (Grew.refl wr).drew) hg6)
                  refine last_call 9 (by kernel_rfl) (by kernel_rfl) rfl (by rfl) (fun K hK => ?_)
                  go_simp
                  go_wp2_with fail
                  have HNa := Lib.hid (HN6.out.more ((Grew.refl w6).alloc (.cells #[.int .i64 y.table, .int .i64 y.join, .slice AK y.keys.length cK, .slice AS2 y.scan.length cS2, .slice AR2 y.rest.length cR2] 72)))
                  have hSa : Blok (w6.alloc (.cells #[.int .i64 y.table, .int .i64 y.join, .slice AK y.keys.length cK, .slice AS2 y.scan.length cS2, .slice AR2 y.rest.length cR2] 72)) g 37 #[.int .i64 q3, .slice AS vs.length kS, vE, vR, .slice AL lts.length cL, vW] ∧ Blok (w6.alloc (.cells #[.int .i64 y.table, .int .i64 y.join, .slice AK y.keys.length cK, .slice AS2 y.scan.length cS2, .slice AR2 y.rest.length cR2] 72)) w.heap.size 29 (qyC it sr wh gr A k (some ⟨bf, of, none⟩) j C c D d) ∧ Grew w (w6.alloc (.cells #[.int .i64 y.table, .int .i64 y.join, .slice AK y.keys.length cK, .slice AS2 y.scan.length cS2, .slice AR2 y.rest.length cR2] 72)) := ⟨HNa.out.blk, hS6.2.1.alloc _, HNa.out.grew⟩
                  have HLca : Hid (ListR (LaU w (w6.alloc (.cells #[.int .i64 y.table, .int .i64 y.join, .slice AK y.keys.length cK, .slice AS2 y.scan.length cS2, .slice AR2 y.rest.length cR2] 72)) W3.heap.size) 5 lts css) := Lib.hid (HLc6.out.map fun x cs hx => hx.map (fun _ _ q => q.grew ((Grew.refl w6).alloc _)) (fun _ _ q => q.grew ((Grew.refl w6).alloc _)))
                  have HEa := Lib.hid (HE6.out.map (w' := w6.alloc (.cells #[.int .i64 y.table, .int .i64 y.join, .slice AK y.keys.length cK, .slice AS2 y.scan.length cS2, .slice AR2 y.rest.length cR2] 72)) (fun _ _ q => q.grew ((Grew.refl w6).alloc _)) (fun _ _ q => q.grew ((Grew.refl w6).alloc _)))
                  have HLoa := Lib.hid (own_alloc HLo6.out (.cells #[.int .i64 y.table, .int .i64 y.join, .slice AK y.keys.length cK, .slice AS2 y.scan.length cS2, .slice AR2 y.rest.length cR2] 72))
                  refine hK.out _ _ hSa ?_
                  clear hK K
                  refine last_call 10 (by kernel_rfl) (by kernel_rfl) rfl (by rfl) (fun K hK => ?_)
                  refine wp_appC (.tmp 142) (.tmp 150) 35 72 5 rfl W3.heap.size (.agg #[.int .i64 0, .int .i64 0, .slice none 0 0, .slice none 0 0, .slice none 0 0]) 88 Try.underlying35 infoLa rfl (by decide) (by decide) _ lts.length _ rfl HLoa.out _ 1 1 [.int .i64 y.table, .int .i64 y.join, .slice AK y.keys.length cK, .slice AS2 y.scan.length cS2, .slice AR2 y.rest.length cR2] rfl rfl (row_new w6 _ _ #[.int .i64 y.table, .int .i64 y.join, .slice AK y.keys.length cK, .slice AS2 y.scan.length cS2, .slice AR2 y.rest.length cR2] rfl) (by simp [Value.oneCell']) (by omega) HNa.out.size ?_
                  intro A8 c8 w8 ho8 hg8 hor8
                  have hbb := own_base HLoa.out
                  have hS8 : Blok w8 g 37 #[.int .i64 q3, .slice AS vs.length kS, vE, vR, .slice AL lts.length cL, vW] ∧ Blok w8 w.heap.size 29 (qyC it sr wh gr A k (some ⟨bf, of, none⟩) j C c D d) ∧ Grew w w8 := ⟨hSa.1.grown hg8 (fun e => by have := hbb g e; have := HNa.out.low; omega), hSa.2.1.grown hg8 (fun e => by have := hbb _ e; have := HNa.out.low; omega), hSa.2.2.grown hg8 (fun b hb' => by have := hbb b hb'; have := HNa.out.low; omega)⟩
                  have HNf := Lib.hid (HNa.out.putL HLoa.out hg8 (fun _ _ h => h) (.slice A8 (lts.length + 1) c8))
                  have HLf := Lib.hid (LaSl.put HLca.out HLoa.out HEa.out rfl ho8 hg8 HNa.out.low.2 (.slice A8 (lts.length + 1) c8))
                  refine hK.out _ _ hS8 ?_
                  clear hK K
                  refine last_take 11 (v := ?_) rfl (by kernel_rfl) (by kernel_rfl) (by kernel_rfl) (by kernel_rfl) (fun _ _ _ h => h) (by rfl) ?_ hS8 ?_
                  rotate_left
                  · (intro W hW; go_simp; with_reducible rfl)
                  refine last_norm (a' := ?_) ?_ ?_
                  rotate_left
                  · (go_simp; with_reducible rfl)
                  have z2 := hS8.1.thaw 4
                  have zc := hS8.1.cell 4
                  have zl := hS8.1.lt
                  simp at zc
                  refine last_last (by kernel_rfl) (by kernel_rfl) rfl (by rfl) (fun K hK => ?_)
                  go_simp
                  go_wp2_with fail
                  refine hK.out _ _ ?_
                  clear hK K hS8 hSa hS6 hS0 ho8 hg8 hor8 z2 zc zl hg6 hB6
                  go_wp2
                  exact ⟨⟨q2 + 1, _, by omega, by go_num, HNf.out, by rw [HLs.out]; exact HLf.out⟩, by simp only [intOf]; omega⟩
                · have hqe : q2 = sr.length - q3 := by omega
                  subst hqe
                  have hb2 : Blok wr (w.heap.size + 1) 37 #[.int .i64 0, .slice none 0 0, .slice none 0 0, .slice none 0 0, .slice none 0 0, .slice none 0 0] := (HN2.out.kept _ (by omega) (by omega)).trans (HB2'.out.grew HG6.out)
                  have hgb := HN2.out.blk
                  have hu2 : w.heap.size ≤ w.heap.size + 1 := by omega
                  have h2b : w.heap.size + 1 < W3.heap.size := by omega
                  generalize w.heap.size + 1 = b2 at *
                  obtain ⟨AE, cE, rfl, _⟩ := HN2.out.edges
                  obtain ⟨AR, cR, rfl, _⟩ := HN2.out.bins.each 0 vR _ rfl rfl
                  obtain ⟨AW, cW, rfl, _⟩ := HN2.out.bins.each 1 vW _ rfl rfl
                  obtain ⟨AL, cL, _, rfl, _, _⟩ := HL2.out
                  have gl : g < wr.heap.size := hgb.lt
                  have g0 := hgb.cell 0
                  have g1 := hgb.cell 1
                  have g2 := hgb.cell 2
                  have g3 := hgb.cell 3
                  have g4 := hgb.cell 4
                  have g5 := hgb.cell 5
                  have bl : b2 < wr.heap.size := hb2.lt
                  have z0 := hb2.thaw 0
                  have z1 := hb2.thaw 1
                  have z2 := hb2.thaw 2
                  have z3 := hb2.thaw 3
                  have z4 := hb2.thaw 4
                  have z5 := hb2.thaw 5
                  have y0 := hb2.cell 0
                  have y1 := hb2.cell 1
                  have y2 := hb2.cell 2
                  have y3 := hb2.cell 3
                  have y4 := hb2.cell 4
                  have y5 := hb2.cell 5
                  simp at g0 g1 g2 g3 g4 g5 y0 y1 y2 y3 y4 y5
                  have HBF := Lib.hid ((((((hb2.set 0 (.int .i64 q3)).set 1 (.slice AS vs.length kS)).set 2 (.slice AE (nE q3 l).length cE)).set 3 (.slice AR (nR q3 l).length cR)).set 4 (.slice AL (latesX sr q3 (sr.length - q3)).length cL)).set 5 (.slice AW (nW q3 l).length cW))
                  have HE : Hid (NormF w fin (.returned (.agg #[.int .i64 q3, .slice AS vs.length kS, .slice AE (nE q3 l).length cE, .slice AR (nR q3 l).length cR, .slice AL (latesX sr q3 (sr.length - q3)).length cL, .slice AW (nW q3 l).length cW])) ((((((wr.setCell ⟨b2, 0, none⟩ (.int .i64 q3)).setCell ⟨b2, 1, none⟩ (.slice AS vs.length kS)).setCell ⟨b2, 2, none⟩ (.slice AE (nE q3 l).length cE)).setCell ⟨b2, 3, none⟩ (.slice AR (nR q3 l).length cR)).setCell ⟨b2, 4, none⟩ (.slice AL (latesX sr q3 (sr.length - q3)).length cL)).setCell ⟨b2, 5, none⟩ (.slice AW (nW q3 l).length cW))) := Lib.hid (by
                    rw [← HF.out]
                    refine norm_done HN2.out HL2.out (fun i hi => ?_) ((((((HN2.out.grew.setCell hu2 _).setCell hu2 _).setCell hu2 _).setCell hu2 _).setCell hu2 _).setCell hu2 _)
                    have hn' : i ≠ b2 := by omega
                    rw [heap_set _ _ hn', heap_set _ _ hn', heap_set _ _ hn', heap_set _ _ hn', heap_set _ _ hn', heap_set _ _ hn'])
                  clear HN2 HL2 HF hgb hb2
                  generalize nE (q3 : Int) l = le at *
                  generalize nR (q3 : Int) l = lr at *
                  generalize nW (q3 : Int) l = lw at *
                  generalize latesX sr q3 (sr.length - q3) = lla at *
                  go_wp2
                  have y0 := HBF.out.cell 0
                  have y1 := HBF.out.cell 1
                  have y2 := HBF.out.cell 2
                  have y3 := HBF.out.cell 3
                  have y4 := HBF.out.cell 4
                  have y5 := HBF.out.cell 5
                  simp at y0 y1 y2 y3 y4 y5
                  refine bodyPost_ret (v := .agg #[.int .i64 q3, .slice AS vs.length kS, .slice AE le.length cE, .slice AR lr.length cR, .slice AL lla.length cL, .slice AW lw.length cW]) ?_ ?_ ?_
                  · simp [results, Try.results8, go_sem, y0, y1, y2, y3, y4, y5]
                  · rfl
                  · exact HE.out
end Go.Proofs.Ytoaciliojdaoaaa

namespace Go.Proofs.Ytoaciliojdaoaaa
open Go.RowKit

theorem fewE_of {l m : List Ex} (h : ∀ y ∈ m, y ∈ l) (hl : m.length ≤ l.length) (h1 : l.length ≤ 1000000) (h2 : ∀ y ∈ l, y.nodes ≤ 200) : fewE m :=
  ⟨by omega, fun y hy => Nat.le_trans (h2 y (h y hy)) (by decide)⟩
theorem few16 {sr : List Fr} {wh : Ex} (hs : sr.length ≤ 1000) (hn : ∀ f ∈ sr, f.on.nodes ≤ 200) (hw : wh.nodes ≤ 200) : fewN (normX sr wh) := by
  have hc := coreN_le sr
  have hp := allP_len sr hn (coreN sr)
  have hq := Nat.le_trans (partsX_len wh) hw
  have hl : (allX sr wh (coreN sr)).length ≤ 1000000 := by unfold allX; rw [List.length_append]; omega
  have hy : ∀ y ∈ allX sr wh (coreN sr), y.nodes ≤ 200 := fun y hy => by
    rcases List.mem_append.1 hy with hy | hy
    · exact allP_nodes sr hn _ y hy
    · exact Nat.le_trans (partsX_nodes wh y hy) hw
  have hf : ∀ p : Ex → Bool, fewE ((allX sr wh (coreN sr)).filter p) := fun p => fewE_of (fun y hy => (List.mem_filter.1 hy).1) (List.length_filter_le _ _) hl hy
  refine ⟨?_, ?_, ?_, hf _, ?_, ?_, hf _⟩
  · show (nS (coreN sr) _).length ≤ _
    rw [nS_len]
    omega
  · intro m hm
    change m ∈ nS (coreN sr) _ at hm
    obtain ⟨t, _, rfl⟩ := List.mem_map.1 hm
    exact hf _
  · show (nE _ _).length ≤ _
    unfold nE
    rw [List.length_map]
    exact (hf _).1
  · show (latesX _ _ _).length ≤ _
    rw [latesX_len]
    omega
  · intro y hm
    change y ∈ latesX _ _ _ at hm
    obtain ⟨i, hi, rfl⟩ := List.mem_map.1 hm
    have hi' : coreN sr + i < sr.length := by have := List.mem_range.1 hi; omega
    have hfr := hn _ (List.getElem_mem hi')
    have e : sr.getD (coreN sr + i) default = sr[coreN sr + i] := by simp [List.getD, hi']
    rw [e]
    have hpl := partsX_len sr[coreN sr + i].on
    have hpn : ∀ y ∈ partsX sr[coreN sr + i].on, y.nodes ≤ 200 := fun y hy => Nat.le_trans (partsX_nodes _ y hy) hfr
    have hg : ∀ p : Ex → Bool, fewE ((partsX sr[coreN sr + i].on).filter p) := fun p => fewE_of (fun y hy => (List.mem_filter.1 hy).1) (List.length_filter_le _ _) (by omega) hpn
    refine ⟨?_, hg _, hg _⟩
    show (ltK _ _).length ≤ _
    unfold ltK
    rw [List.length_map]
    exact (hg _).1
end Go.Proofs.Ytoaciliojdaoaaa
