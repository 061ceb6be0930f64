/- Layer 27: what is held of anything that is said, by the document. Condition: no more than a million marks a column. -/
import Derived.Test.YtbglmcebkpkccaaGreatDoorStat2
import Derived.Test.YtbglmcebkpkccaaGreatDoorQKH
import Derived.Test.YtbglmcebkpkccaaGreatDoorNest
import Derived.WalkSpells

/- Numbers in a row of one's own: cloned, cut, sorted; what is said of one column. Condition: no more than a million numbers. -/
namespace Go.Proofs.YtbglmcebkpkccaaGreatDoor
open Go.RowKit
attribute [local go_sem] more_cell more_frozen more_more more_setCell more_of_drew more_of_drewN lt_more le_more past_cell past_cell2 past_frozen past_frozen2 past_setCell past_setCell2 mid_cell mid_frozen mid_setCell
attribute [local go_sem ↓] Go.wp_at_zero Go.wp_at_succ
@[local go_sem] theorem eql_nilI (w : World) (a : Option Addr) (n c : Nat) : (binOp .eql 31 (.slice a n c) (.slice none 0 0)).run Tryz.prog w = .ok (.bool a.isNone) w := Lib.run_eql_slice_nil w _ _ a n c 0 0 Tryz.underlying31

/-- Numbers that come back in a row of one's own, which may be written. -/
def OwnI (w : World) (l : List Int) (e : Ending) (w' : World) : Prop := ∃ A k, e = .returned (.slice A l.length k) ∧ Grew w w' ∧ w'.ownsRow w.heap.size 3 1 (.slice A l.length k) l.length (iV l)
theorem iV_len (l : List Int) : (iV l).length = l.length := by simp [iV]
theorem clone_ints (l : List Int) (hl : l.length ≤ 1000000) (A : Option Addr) (k : Nat) (w : World) (ra : Row w A (iV l)) : Calls Tryz.prog 49 #[.slice A l.length k] w (OwnI w l) := by
  have HR := Lib.hid ra
  clear ra
  rcases A with _ | a
  · have hxs : l = [] := by
      rcases HR.out with h | ⟨b, o, h, _⟩
      · simpa [iV] using h
      · cases h
    subst hxs
    go_enter Tryz.func49, Tryz.ntmps49
    go_wp2
    go_ret
    exact ⟨none, 0, rfl, Grew.refl w, own_none _ _ _ _⟩
  · have HL := Lib.hid (iV_len l)
    have H1 := Lib.hid (iV_one l)
    go_enter Tryz.func49, Tryz.ntmps49
    go_wp2_with (at_builtin; refine wpList_app rfl _ _ 31 3 rfl w (.int .i64 0) 8 Tryz.underlying31 infoI rfl (by decide) _ 0 [] rfl (own_empty w _ _ _ _ rfl (Nat.le_refl _)) _ l.length k (iV l) rfl HL.out (row_alloc HR.out _) H1.out (by omega) ((Grew.refl w).alloc _) ?_; intro A' c' w' ho' _ hg' _ _; have HO := Lib.hid ho'; have HG := Lib.hid hg'; clear ho' hg')
    go_ret
    refine ⟨A', c', by first | rfl | rw [Nat.zero_add], HG.out, ?_⟩
    have h := HO.out
    rw [List.nil_append, Nat.zero_add] at h
    exact h
theorem own_cut {w : World} {base n c : Nat} {e : TypeId} {A : Option Addr} {xs : List Value} (h : w.ownsRow base e 1 (.slice A n c) n xs) {k : Nat} (hk : k ≤ n) : w.ownsRow base e 1 (.slice A k c) k (xs.take k) := by
  have hl := h.1
  refine ⟨by rw [List.length_take, hl]; omega, ?_⟩
  rcases h.2 with ⟨h1, h2⟩ | ⟨g, cap, cur, h1, h2, h3, h4, h5, h6, h7⟩
  · injection h1 with h1 h1' h1''
    subst h1 h1''
    obtain rfl : k = 0 := by omega
    exact Or.inl ⟨rfl, rfl⟩
  · injection h1 with h1 _ h1''
    subst h1 h1''
    refine Or.inr ⟨g, c, cur, rfl, h2, h3, by omega, h5, h6, ?_⟩
    rw [← h7, List.take_take]
    congr 1
    omega
/-- Numbers of one's own are sorted where they lie. -/
theorem sort_own (l : List Int) (hz : l.length ≤ 1000000) (A : Option Addr) (c base : Nat) (w : World) (ho : w.ownsRow base 3 1 (.slice A l.length c) l.length (iV l)) :
    Calls Tryz.prog 51 #[.slice A l.length c] w fun e w' => e = .returned (.tuple #[]) ∧ w'.ownsRow base 3 1 (.slice A l.length c) l.length (iV (sortI l)) ∧ w.grownBy w' (Value.slice A l.length c).ownBlock := by
  have hl : (sortI l).length = l.length := sortI_len l
  by_cases h0 : l.length = 0
  · have h00 : l = [] := List.eq_nil_of_length_eq_zero h0
    subst h00
    refine (Tryz.slices_Sort_int_none A c w).mono ?_
    rintro e w' ⟨rfl, rfl⟩
    exact ⟨rfl, by rw [sortI_nil]; exact ho, World.grownBy.refl _ _⟩
  rcases ho.2 with ⟨h1, h2⟩ | ⟨g, cap, cur, h1, hbase, hgb, r1, r2, r3, r4⟩
  · omega
  · injection h1 with h1 _ h1''
    subst h1 h1''
    have hH : Go.Sort.Holds (Value.int .i64) w g 0 l.toArray := holds_of_blockI hgb (by simpa [iV] using r4)
    have hgl : g < w.heap.size := (Array.getElem?_eq_some_iff.1 hgb).1
    refine (Tryz.slices_Sort_int g 0 c l w hH hgl (by omega)).mono ?_
    rintro e w' ⟨rfl, n, os, rfl⟩
    exact ⟨rfl, ownsRow_sortedI (ts := sortI l) hl hbase hgb r1 r2 r3, grownBy_sortedI _⟩

def colI (l : List Cst) (c : Int) : Cst := if 0 ≤ c then l.getD c.toNat default else default
/-- What is said of a column, with marks of one's own. -/
def ColF (w : World) (x : Cst) (e : Ending) (w' : World) : Prop := ∃ B j, e = .returned (.agg #[.int .i64 x.u, .int .i64 x.n, .slice B x.m.length j]) ∧ Grew w w' ∧ w'.ownsRow w.heap.size 3 1 (.slice B x.m.length j) x.m.length (iV x.m)
set_option maxHeartbeats 2000000 in
set_option maxRecDepth 100000 in
theorem col_any (r : Int) (l : List Cst) (A : Option Addr) (k : Nat) (c : Int) (hm : ∀ x ∈ l, x.m.length ≤ 1000000) (w : World) (ra : CstsR (PRow w) A l) :
    Calls Tryz.prog 105 #[.agg #[.int .i64 r, .slice A l.length k], .int .i64 c] w (ColF w (colI l c)) := by
  by_cases hin : 0 ≤ c ∧ c < l.length
  · obtain ⟨i, rfl⟩ : ∃ i : Nat, c = i := ⟨c.toNat, by omega⟩
    have hi : i < l.length := by omega
    have he : colI l i = l[i] := by
      unfold colI
      rw [if_pos (by omega), Int.toNat_natCast, List.getD_eq_getElem?_getD, List.getElem?_eq_getElem hi]
      rfl
    rw [he]
    obtain ⟨b, o, B, j, rfl, hb, c0, c1, c2, hj, hr⟩ := cstsR_at ra hi
    have HC : Hid (∀ W, Grew w W → Calls Tryz.prog 49 #[.slice B l[i].m.length j] W (OwnI W l[i].m)) := Lib.hid fun W hW => clone_ints l[i].m (hm _ (List.getElem_mem hi)) B j W (hr.grew hW)
    have h1 : (0 : Int) ≤ i := by omega
    have h2 : (i : Int) < l.length := by omega
    clear ra hm he hr hin
    generalize l[i] = x at *
    obtain ⟨u, n, m⟩ := x
    simp only at *
    go_enter Tryz.func105, Tryz.ntmps105
    go_wp2_with fail
    refine (HC.out _ ((((Grew.refl w).alloc _).alloc _).alloc _)).mono ?_
    rintro e w2 ⟨B2, j2, rfl, hg2, ho2⟩
    have b4 : Blok w2 (w.heap.size + 1) 109 #[.int .i64 0, .int .i64 0, .slice none 0 0] := ((Blok.new _ _ _ _ (by simp)).alloc _).grew hg2
    have b5 : Blok w2 (w.heap.size + 2) 109 #[.int .i64 u, .int .i64 n, .slice B m.length j] := (Blok.new _ _ _ _ (by simp)).grew hg2
    have d0 := b5.cell 0
    have d1 := b5.cell 1
    have d2 := b5.cell 2
    have dl := b5.lt
    have y2 := b5.thaw 2
    have el := b4.lt
    have e0 := b4.cell 0
    have e1 := b4.cell 1
    have e2 := b4.cell 2
    have z0 := b4.thaw 0
    have z1 := b4.thaw 1
    have z2 := b4.thaw 2
    simp at d0 d1 d2 e0 e1 e2
    have HG2 : Hid (Grew w w2) := Lib.hid (((((Grew.refl w).alloc _).alloc _).alloc _).trans hg2)
    have HB4 := Lib.hid b4
    have HO2 : Hid (w2.ownsRow (w.heap.size + 3) 3 1 (.slice B2 m.length j2) m.length (iV m)) := Lib.hid (by simpa using ho2)
    clear b4 b5 hg2 ho2 HC
    go_wp2
    have bf := (((HB4.out.far (p := ⟨w.heap.size + 2, 2, none⟩) (by simp) (.slice B2 m.length j2)).set 0 (.int .i64 u)).set 1 (.int .i64 n)).set 2 (.slice B2 m.length j2)
    have q0 := bf.cell 0
    have q1 := bf.cell 1
    have q2 := bf.cell 2
    simp at q0 q1 q2
    refine bodyPost_ret (v := .agg #[.int .i64 u, .int .i64 n, .slice B2 m.length j2]) (by simp [results, Tryz.results105, go_sem, q0, q1, q2]) rfl ⟨B2, j2, rfl, ?_, ?_⟩
    · exact Grew.setCell (Grew.setCell (Grew.setCell (Grew.setCell HG2.out (by show w.heap.size ≤ w.heap.size + 2; omega) _) (Nat.le_succ _) _) (Nat.le_succ _) _) (Nat.le_succ _) _
    · refine own_le (ownsRow_setCell_below (ownsRow_setCell_below (ownsRow_setCell_below (ownsRow_setCell_below HO2.out (a := ⟨w.heap.size + 2, 2, none⟩) (by simp) _) (a := ⟨w.heap.size + 1, 0, none⟩) (by simp) _) (a := ⟨w.heap.size + 1, 1, none⟩) (by simp) _) (a := ⟨w.heap.size + 1, 2, none⟩) (by simp) _) (by omega)
  · have he : colI l c = default := by
      unfold colI
      split
      · rw [List.getD_eq_getElem?_getD, List.getElem?_eq_none (by omega)]
        rfl
      · rfl
    rw [he]
    clear he ra hm
    show Calls _ _ _ _ (ColF w ⟨0, 0, []⟩)
    rcases Int.lt_or_le c 0 with h | h
    · go_enter Tryz.func105, Tryz.ntmps105
      go_wp2
      exact bodyPost_ret (v := .agg #[.int .i64 0, .int .i64 0, .slice none 0 0]) (by simp [results, Tryz.results105, go_sem]) rfl ⟨none, 0, rfl, by (show Grew _ _; repeat (first | exact Grew.refl _ | refine Grew.alloc ?_ _ | refine Grew.drew ?_ | refine Grew.more ?_ _)), own_none _ _ _ _⟩
    · have h2 : (l.length : Int) ≤ c := by omega
      go_enter Tryz.func105, Tryz.ntmps105
      go_wp2
      exact bodyPost_ret (v := .agg #[.int .i64 0, .int .i64 0, .slice none 0 0]) (by simp [results, Tryz.results105, go_sem]) rfl ⟨none, 0, rfl, by (show Grew _ _; repeat (first | exact Grew.refl _ | refine Grew.alloc ?_ _ | refine Grew.drew ?_ | refine Grew.more ?_ _)), own_none _ _ _ _⟩
end Go.Proofs.YtbglmcebkpkccaaGreatDoor

/- Layer 27: what is held of anything that is said, by the program. Condition: no more than a million marks a column. -/
namespace Go.Proofs.YtbglmcebkpkccaaGreatDoor
open Go.RowKit
attribute [local go_sem] more_cell more_frozen more_more more_setCell more_of_drew more_of_drewN lt_more le_more past_cell past_cell2 past_frozen past_frozen2 past_setCell past_setCell2 mid_cell mid_frozen mid_setCell
attribute [local go_sem ↓] Go.wp_at_zero Go.wp_at_succ

theorem neCS : (3 : TypeId) ≠ 109 := by decide
theorem neST : (3 : TypeId) ≠ 58 := by decide
theorem neCT : (109 : TypeId) ≠ 58 := by decide
/-- Columns are gathered in a struct of one's own. -/
structure HeldI (u : World) (g0 g4 g5 : Nat) (c0 c4 : Array Value) (s : Sst) (i : Nat) (A : Option Addr) (c : Nat) (css : List (List Value)) (wr : World) : Prop where
  grew : Grew u wr
  b0 : Blok wr g0 58 c0
  b4 : Blok wr g4 58 c4
  b5 : Blok wr g5 58 #[.int .i64 (cutI s.rows), .slice A i c]
  own : wr.ownsRow (g5 + 1) 109 3 (.slice A i c) i css.flatten
  rows : ListR (CstR (MRow u wr)) 3 (heldP s i) css
theorem HeldI.on {u : World} {g0 g4 g5 : Nat} {c0 c4 : Array Value} {s : Sst} {i : Nat} {A : Option Addr} {c : Nat} {css : List (List Value)} {wr w' : World} (h : HeldI u g0 g4 g5 c0 c4 s i A c css wr) (k : Grew wr w') : HeldI u g0 g4 g5 c0 c4 s i A c css w' := by
  obtain ⟨x, rfl⟩ := k
  exact ⟨h.grew.more x, h.b0.more x, h.b4.more x, h.b5.more x, own_more h.own x, h.rows.map fun y cs hy => hy.imp fun A xs hm => hm.grew ⟨x, rfl⟩⟩
theorem HeldI.snoc {u : World} {g0 g4 g5 : Nat} {c0 c4 : Array Value} {s : Sst} {i : Nat} {A A' : Option Addr} {c c' : Nat} {css : List (List Value)} {cs : List Value} {wr w' : World} (h : HeldI u g0 g4 g5 c0 c4 s i A c css wr)
    (hu : u.heap.size ≤ g5) (h0 : g0 < g5) (h4 : g4 < g5) (hx : CstR (MRow u wr) (heldC (cutI s.rows) (colAt s i)) cs)
    (ho : w'.ownsRow (g5 + 1) 109 3 (.slice A' (i + 1) c') (i + 1) (css.flatten ++ cs)) (hb : wr.grownBy w' (Value.slice A i c).ownBlock) :
    HeldI u g0 g4 g5 c0 c4 s (i + 1) A' c' (css ++ [cs]) (w'.setCell ⟨g5, 1, none⟩ (.slice A' (i + 1) c')) := by
  have hrow : ∀ k, (Value.slice A i c).ownBlock = some k → g5 + 1 ≤ k := own_base h.own
  have hg : Grew u w' := h.grew.grown hb fun k hk => by have := hrow k hk; omega
  have b0 := h.b0.grown hb (fun e => by have := hrow _ e; omega)
  have b4 := h.b4.grown hb (fun e => by have := hrow _ e; omega)
  have b5 := h.b5.grown hb (fun e => by have := hrow _ e; omega)
  have hlen : cs.length = 3 := by obtain ⟨_, _, rfl, _⟩ := hx; rfl
  have H : ∀ B xs, MRow u wr 3 B xs → MRow u (w'.setCell ⟨g5, 1, none⟩ (.slice A' (i + 1) c')) 3 B xs := fun B xs hm => (hm.grown h.own neCS hb).turns ((Turns.refl _ _).set _ _) b5 neST
  refine ⟨hg.setCell (a := ⟨g5, 1, none⟩) hu _, b0.far (by show g0 ≠ g5; omega) _, b4.far (by show g4 ≠ g5; omega) _, ?_, ?_, ?_⟩
  · have := b5.set 1 (.slice A' (i + 1) c')
    simpa using this
  · rw [List.flatten_append]
    simp only [List.flatten_cons, List.flatten_nil, List.append_nil]
    exact ownsRow_setCell_below ho (a := ⟨g5, 1, none⟩) (Nat.lt_succ_self _) _
  · rw [heldP_snoc]
    exact (h.rows.map fun y ds hy => hy.imp H).snoc (hx.imp H) hlen
theorem HeldI.done {u : World} {g0 g4 g5 : Nat} {c0 c4 : Array Value} {s : Sst} {i : Nat} {A : Option Addr} {c : Nat} {css : List (List Value)} {wr : World} (h : HeldI u g0 g4 g5 c0 c4 s i A c css wr) : CstsR (PRow wr) A (heldP s i) := by
  obtain ⟨A', c', e, hr⟩ := own_row h.own
  injection e with e _ _
  subst e
  exact ⟨css, h.rows.map fun y cs hy => hy.imp fun B xs hm => hm.plain h.grew, hr⟩
theorem HeldI.res {u : World} {g0 g4 g5 : Nat} {c0 c4 : Array Value} {s : Sst} {i : Nat} {A : Option Addr} {c : Nat} {css : List (List Value)} {wr : World} (h : HeldI u g0 g4 g5 c0 c4 s i A c css wr) (hu : u.heap.size ≤ g4) (h4 : g4 < g5) (v0 v1 : Value) :
    Grew u ((wr.setCell ⟨g4, 0, none⟩ v0).setCell ⟨g4, 1, none⟩ v1) ∧ CstsR (PRow ((wr.setCell ⟨g4, 0, none⟩ v0).setCell ⟨g4, 1, none⟩ v1)) A (heldP s i) := by
  have hg : Grew u ((wr.setCell ⟨g4, 0, none⟩ v0).setCell ⟨g4, 1, none⟩ v1) := Grew.setCell (Grew.setCell h.grew (a := ⟨g4, 0, none⟩) hu _) (a := ⟨g4, 1, none⟩) hu _
  have ho := ownsRow_setCell_below (ownsRow_setCell_below h.own (a := ⟨g4, 0, none⟩) (by show g4 < _; omega) v0) (a := ⟨g4, 1, none⟩) (by show g4 < _; omega) v1
  obtain ⟨A', c', e, hr⟩ := own_row ho
  injection e with e _ _
  subst e
  have k := ((Turns.refl wr g4).set 0 v0).set 1 v1
  exact ⟨hg, css, h.rows.map fun y cs hy => hy.imp fun B xs hm => (hm.turns k h.b4 neST).plain hg, hr⟩
theorem boxC {w : World} {g : Nat} {v0 v1 v2 : Value} (h : Blok w g 109 #[v0, v1, v2]) : g < w.heap.size ∧ w.cell? ⟨g, 0, none⟩ = some v0 ∧ w.cell? ⟨g, 1, none⟩ = some v1 ∧ w.cell? ⟨g, 2, none⟩ = some v2 ∧ w.frozen? ⟨g, 0, none⟩ = false ∧ w.frozen? ⟨g, 1, none⟩ = false ∧ w.frozen? ⟨g, 2, none⟩ = false := ⟨h.lt, h.cell 0, h.cell 1, h.cell 2, h.thaw 0, h.thaw 1, h.thaw 2⟩
theorem boxS2 {w : World} {g : Nat} {v0 v1 : Value} (h : Blok w g 58 #[v0, v1]) : g < w.heap.size ∧ w.cell? ⟨g, 0, none⟩ = some v0 ∧ w.cell? ⟨g, 1, none⟩ = some v1 ∧ w.frozen? ⟨g, 0, none⟩ = false ∧ w.frozen? ⟨g, 1, none⟩ = false := ⟨h.lt, h.cell 0, h.cell 1, h.thaw 0, h.thaw 1⟩
theorem colI_at (s : Sst) (i : Nat) : colI s.cols i = colAt s i := by
  unfold colI colAt
  rw [if_pos (by omega), Int.toNat_natCast]
theorem near_min (n high : Int) (h : 0 ≤ high) : min high (max 0 n) = nearI n high := by
  unfold nearI
  split
  · omega
  · split <;> omega
end Go.Proofs.YtbglmcebkpkccaaGreatDoor

/- Layer 27: is it held as it is: the same columns, by the library and the program. Condition: no more than a million columns. -/
namespace Go.Proofs.YtbglmcebkpkccaaGreatDoor
open Go.RowKit
attribute [local go_sem] more_cell more_frozen more_more more_setCell more_of_drew more_of_drewN lt_more le_more past_cell past_cell2 past_frozen past_frozen2 past_setCell past_setCell2 mid_cell mid_frozen mid_setCell
attribute [local go_sem ↓] Go.wp_at_zero Go.wp_at_succ

theorem equal_ints (a b : List Int) (A B : Option Addr) (c d : Nat) (w : World) (ha : Row w A (iV a)) (hb : Row w B (iV b)) (hl : a.length ≤ 1000000000) (hm : b.length ≤ 1000000000) :
    Gives Tryz.prog 58 #[.slice A a.length c, .slice B b.length d] w (.bool (decide (a = b))) := by
  by_cases hn : a.length = b.length
  · by_cases h0 : a.length = 0
    · have e1 : a = [] := List.eq_nil_of_length_eq_zero h0
      have e2 : b = [] := List.eq_nil_of_length_eq_zero (by omega)
      subst e1 e2
      refine (Tryz.slices_Equal_int_empty A B c 0 d w (by decide)).mono ?_
      rintro e w' ⟨rfl, rfl⟩
      exact ⟨by simp, ⟨⟨#[], w'.drawn⟩, (more_self w').symm⟩⟩
    · obtain ⟨b1, o1, rfl⟩ := irow_some ha (j := 0) (by omega)
      obtain ⟨b2, o2, rfl⟩ := irow_some hb (j := 0) (by omega)
      have hc : ∀ (l : List Int) (q p : Nat), Row w (some ⟨q, p, none⟩) (iV l) → ∀ j, j < l.length → w.cell? ⟨q, p + j, none⟩ = some (.int .i64 (l.getD j 0)) := fun l q p hr j hj => by
        rw [(irow_cell hr hj rfl).2, List.getD_eq_getElem?_getD, List.getElem?_eq_getElem hj]
        rfl
      refine (Tryz.slices_Equal_int b1 o1 a.length c b2 o2 b.length d a b w (Nat.le_refl _) (Nat.le_refl _) (by omega) (by omega) (hc a b1 o1 ha) (hc b b2 o2 hb)).mono ?_
      rintro e w' ⟨rfl, q, rfl⟩
      refine ⟨?_, (Grew.refl w).drewN q⟩
      rw [List.take_length, List.take_length]
      congr 2
      by_cases h : a = b
      · rw [decide_eq_true h, h]; simp
      · rw [decide_eq_false h]; simpa using h
  · refine (Tryz.slices_Equal_int_lens A B a.length c b.length d w hn).mono ?_
    rintro e w' ⟨rfl, rfl⟩
    refine ⟨?_, ⟨⟨#[], w'.drawn⟩, (more_self w').symm⟩⟩
    rw [decide_eq_false (fun e => hn (by rw [e]))]
end Go.Proofs.YtbglmcebkpkccaaGreatDoor

namespace Go.Proofs.YtbglmcebkpkccaaGreatDoor
open Go.RowKit
attribute [local go_sem] more_cell more_frozen more_more more_setCell more_of_drew more_of_drewN lt_more le_more past_cell past_cell2 past_frozen past_frozen2 past_setCell past_setCell2 mid_cell mid_frozen mid_setCell
attribute [local go_sem ↓] Go.wp_at_zero Go.wp_at_succ
end Go.Proofs.YtbglmcebkpkccaaGreatDoor
