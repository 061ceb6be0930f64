/- Layer 27: what is held of anything that is said, by the document. Condition: no more than a million marks a column. -/
import Derived.Test.YtbglmcebkpkccaaDoorStat2
import Derived.Test.YtbglmcebkpkccaaDoorQKH
import Derived.Test.YtbglmcebkpkccaaDoorNest
import Derived.WalkSpells

/- Numbers in a row of one's own: cloned, cut, sorted; what is said of one column. Condition: no more than a million numbers. -/
namespace Go.Proofs.YtbglmcebkpkccaaDoor
open Go.RowKit
attribute [local go_sem] more_cell more_frozen more_more more_setCell more_of_drew more_of_drewN lt_more le_more past_cell past_cell2 past_frozen past_frozen2 past_setCell past_setCell2 mid_cell mid_frozen mid_setCell
attribute [local go_sem ↓] Go.wp_at_zero Go.wp_at_succ
@[local go_sem] theorem eql_nilI (w : World) (a : Option Addr) (n c : Nat) : (binOp .eql 31 (.slice a n c) (.slice none 0 0)).run Tryd.prog w = .ok (.bool a.isNone) w := Lib.run_eql_slice_nil w _ _ a n c 0 0 Tryd.underlying31

/-- Numbers that come back in a row of one's own, which may be written. -/
def OwnI (w : World) (l : List Int) (e : Ending) (w' : World) : Prop := ∃ A k, e = .returned (.slice A l.length k) ∧ Grew w w' ∧ w'.ownsRow w.heap.size 3 1 (.slice A l.length k) l.length (iV l)
theorem iV_len (l : List Int) : (iV l).length = l.length := by simp [iV]
theorem clone_ints (l : List Int) (hl : l.length ≤ 1000000) (A : Option Addr) (k : Nat) (w : World) (ra : Row w A (iV l)) : Calls Tryd.prog 31 #[.slice A l.length k] w (OwnI w l) := by
  have HR := Lib.hid ra
  clear ra
  rcases A with _ | a
  · have hxs : l = [] := by
      rcases HR.out with h | ⟨b, o, h, _⟩
      · simpa [iV] using h
      · cases h
    subst hxs
    go_enter Tryd.func31, Tryd.ntmps31
    go_wp2
    go_ret
    exact ⟨none, 0, rfl, Grew.refl w, own_none _ _ _ _⟩
  · have HL := Lib.hid (iV_len l)
    have H1 := Lib.hid (iV_one l)
    go_enter Tryd.func31, Tryd.ntmps31
    go_wp2_with (at_builtin; refine wpList_app rfl _ _ 31 3 rfl w (.int .i64 0) 8 Tryd.underlying31 infoI rfl (by decide) _ 0 [] rfl (own_empty w _ _ _ _ rfl (Nat.le_refl _)) _ l.length k (iV l) rfl HL.out (row_alloc HR.out _) H1.out (by omega) ((Grew.refl w).alloc _) ?_; intro A' c' w' ho' _ hg' _ _; have HO := Lib.hid ho'; have HG := Lib.hid hg'; clear ho' hg')
    go_ret
    refine ⟨A', c', by first | rfl | rw [Nat.zero_add], HG.out, ?_⟩
    have h := HO.out
    rw [List.nil_append, Nat.zero_add] at h
    exact h
theorem own_cut {w : World} {base n c : Nat} {e : TypeId} {A : Option Addr} {xs : List Value} (h : w.ownsRow base e 1 (.slice A n c) n xs) {k : Nat} (hk : k ≤ n) : w.ownsRow base e 1 (.slice A k c) k (xs.take k) := by
  have hl := h.1
  refine ⟨by rw [List.length_take, hl]; omega, ?_⟩
  rcases h.2 with ⟨h1, h2⟩ | ⟨g, cap, cur, h1, h2, h3, h4, h5, h6, h7⟩
  · injection h1 with h1 h1' h1''
    subst h1 h1''
    obtain rfl : k = 0 := by omega
    exact Or.inl ⟨rfl, rfl⟩
  · injection h1 with h1 _ h1''
    subst h1 h1''
    refine Or.inr ⟨g, c, cur, rfl, h2, h3, by omega, h5, h6, ?_⟩
    rw [← h7, List.take_take]
    congr 1
    omega
/-- Numbers of one's own are sorted where they lie. -/
theorem sort_own (l : List Int) (hz : l.length ≤ 1000000) (A : Option Addr) (c base : Nat) (w : World) (ho : w.ownsRow base 3 1 (.slice A l.length c) l.length (iV l)) :
    Calls Tryd.prog 33 #[.slice A l.length c] w fun e w' => e = .returned (.tuple #[]) ∧ w'.ownsRow base 3 1 (.slice A l.length c) l.length (iV (sortI l)) ∧ w.grownBy w' (Value.slice A l.length c).ownBlock := by
  have hl : (sortI l).length = l.length := sortI_len l
  by_cases h0 : l.length = 0
  · have h00 : l = [] := List.eq_nil_of_length_eq_zero h0
    subst h00
    refine (Tryd.slices_Sort_int_none A c w).mono ?_
    rintro e w' ⟨rfl, rfl⟩
    exact ⟨rfl, by rw [sortI_nil]; exact ho, World.grownBy.refl _ _⟩
  rcases ho.2 with ⟨h1, h2⟩ | ⟨g, cap, cur, h1, hbase, hgb, r1, r2, r3, r4⟩
  · omega
  · injection h1 with h1 _ h1''
    subst h1 h1''
    have hH : Go.Sort.Holds (Value.int .i64) w g 0 l.toArray := holds_of_blockI hgb (by simpa [iV] using r4)
    have hgl : g < w.heap.size := (Array.getElem?_eq_some_iff.1 hgb).1
    refine (Tryd.slices_Sort_int g 0 c l w hH hgl (by omega)).mono ?_
    rintro e w' ⟨rfl, n, os, rfl⟩
    exact ⟨rfl, ownsRow_sortedI (ts := sortI l) hl hbase hgb r1 r2 r3, grownBy_sortedI _⟩

def colI (l : List Cst) (c : Int) : Cst := if 0 ≤ c then l.getD c.toNat default else default
/-- What is said of a column, with marks of one's own. -/
def ColF (w : World) (x : Cst) (e : Ending) (w' : World) : Prop := ∃ B j, e = .returned (.agg #[.int .i64 x.u, .int .i64 x.n, .slice B x.m.length j]) ∧ Grew w w' ∧ w'.ownsRow w.heap.size 3 1 (.slice B x.m.length j) x.m.length (iV x.m)
set_option maxHeartbeats 2000000 in
set_option maxRecDepth 100000 in
theorem col_any (r : Int) (l : List Cst) (A : Option Addr) (k : Nat) (c : Int) (hm : ∀ x ∈ l, x.m.length ≤ 1000000) (w : World) (ra : CstsR (PRow w) A l) :
    Calls Tryd.prog 53 #[.agg #[.int .i64 r, .slice A l.length k], .int .i64 c] w (ColF w (colI l c)) := by
  by_cases hin : 0 ≤ c ∧ c < l.length
  · obtain ⟨i, rfl⟩ : ∃ i : Nat, c = i := ⟨c.toNat, by omega⟩
    have hi : i < l.length := by omega
    have he : colI l i = l[i] := by
      unfold colI
      rw [if_pos (by omega), Int.toNat_natCast, List.getD_eq_getElem?_getD, List.getElem?_eq_getElem hi]
      rfl
    rw [he]
    obtain ⟨b, o, B, j, rfl, hb, c0, c1, c2, hj, hr⟩ := cstsR_at ra hi
    have HC : Hid (∀ W, Grew w W → Calls Tryd.prog 31 #[.slice B l[i].m.length j] W (OwnI W l[i].m)) := Lib.hid fun W hW => clone_ints l[i].m (hm _ (List.getElem_mem hi)) B j W (hr.grew hW)
    have h1 : (0 : Int) ≤ i := by omega
    have h2 : (i : Int) < l.length := by omega
    clear ra hm he hr hin
    generalize l[i] = x at *
    obtain ⟨u, n, m⟩ := x
    simp only at *
    go_enter Tryd.func53, Tryd.ntmps53
    go_wp2_with fail
    refine (HC.out _ ((((Grew.refl w).alloc _).alloc _).alloc _)).mono ?_
    rintro e w2 ⟨B2, j2, rfl, hg2, ho2⟩
    have b4 : Blok w2 (w.heap.size + 1) 73 #[.int .i64 0, .int .i64 0, .slice none 0 0] := ((Blok.new _ _ _ _ (by simp)).alloc _).grew hg2
    have b5 : Blok w2 (w.heap.size + 2) 73 #[.int .i64 u, .int .i64 n, .slice B m.length j] := (Blok.new _ _ _ _ (by simp)).grew hg2
    have d0 := b5.cell 0
    have d1 := b5.cell 1
    have d2 := b5.cell 2
    have dl := b5.lt
    have y2 := b5.thaw 2
    have el := b4.lt
    have e0 := b4.cell 0
    have e1 := b4.cell 1
    have e2 := b4.cell 2
    have z0 := b4.thaw 0
    have z1 := b4.thaw 1
    have z2 := b4.thaw 2
    simp at d0 d1 d2 e0 e1 e2
    have HG2 : Hid (Grew w w2) := Lib.hid (((((Grew.refl w).alloc _).alloc _).alloc _).trans hg2)
    have HB4 := Lib.hid b4
    have HO2 : Hid (w2.ownsRow (w.heap.size + 3) 3 1 (.slice B2 m.length j2) m.length (iV m)) := Lib.hid (by simpa using ho2)
    clear b4 b5 hg2 ho2 HC
    go_wp2
    have bf := (((HB4.out.far (p := ⟨w.heap.size + 2, 2, none⟩) (by simp) (.slice B2 m.length j2)).set 0 (.int .i64 u)).set 1 (.int .i64 n)).set 2 (.slice B2 m.length j2)
    have q0 := bf.cell 0
    have q1 := bf.cell 1
    have q2 := bf.cell 2
    simp at q0 q1 q2
    refine bodyPost_ret (v := .agg #[.int .i64 u, .int .i64 n, .slice B2 m.length j2]) (by simp [results, Tryd.results53, go_sem, q0, q1, q2]) rfl ⟨B2, j2, rfl, ?_, ?_⟩
    · exact Grew.setCell (Grew.setCell (Grew.setCell (Grew.setCell HG2.out (by show w.heap.size ≤ w.heap.size + 2; omega) _) (Nat.le_succ _) _) (Nat.le_succ _) _) (Nat.le_succ _) _
    · refine own_le (ownsRow_setCell_below (ownsRow_setCell_below (ownsRow_setCell_below (ownsRow_setCell_below HO2.out (a := ⟨w.heap.size + 2, 2, none⟩) (by simp) _) (a := ⟨w.heap.size + 1, 0, none⟩) (by simp) _) (a := ⟨w.heap.size + 1, 1, none⟩) (by simp) _) (a := ⟨w.heap.size + 1, 2, none⟩) (by simp) _) (by omega)
  · have he : colI l c = default := by
      unfold colI
      split
      · rw [List.getD_eq_getElem?_getD, List.getElem?_eq_none (by omega)]
        rfl
      · rfl
    rw [he]
    clear he ra hm
    show Calls _ _ _ _ (ColF w ⟨0, 0, []⟩)
    rcases Int.lt_or_le c 0 with h | h
    · go_enter Tryd.func53, Tryd.ntmps53
      go_wp2
      exact bodyPost_ret (v := .agg #[.int .i64 0, .int .i64 0, .slice none 0 0]) (by simp [results, Tryd.results53, go_sem]) rfl ⟨none, 0, rfl, by (show Grew _ _; repeat (first | exact Grew.refl _ | refine Grew.alloc ?_ _ | refine Grew.drew ?_ | refine Grew.more ?_ _)), own_none _ _ _ _⟩
    · have h2 : (l.length : Int) ≤ c := by omega
      go_enter Tryd.func53, Tryd.ntmps53
      go_wp2
      exact bodyPost_ret (v := .agg #[.int .i64 0, .int .i64 0, .slice none 0 0]) (by simp [results, Tryd.results53, go_sem]) rfl ⟨none, 0, rfl, by (show Grew _ _; repeat (first | exact Grew.refl _ | refine Grew.alloc ?_ _ | refine Grew.drew ?_ | refine Grew.more ?_ _)), own_none _ _ _ _⟩
end Go.Proofs.YtbglmcebkpkccaaDoor

/- Layer 27: what is held of anything that is said, by the program. Condition: no more than a million marks a column. -/
namespace Go.Proofs.YtbglmcebkpkccaaDoor
open Go.RowKit
attribute [local go_sem] more_cell more_frozen more_more more_setCell more_of_drew more_of_drewN lt_more le_more past_cell past_cell2 past_frozen past_frozen2 past_setCell past_setCell2 mid_cell mid_frozen mid_setCell
attribute [local go_sem ↓] Go.wp_at_zero Go.wp_at_succ

/-- What is handed back of a table. -/
def HeldF (w : World) (s : Sst) (e : Ending) (w' : World) : Prop := ∃ B j, e = .returned (.agg #[.int .i64 s.rows, .slice B s.cols.length j]) ∧ Grew w w' ∧ CstsR (PRow w') B s.cols
theorem neCS : (3 : TypeId) ≠ 73 := by decide
theorem neST : (3 : TypeId) ≠ 51 := by decide
theorem neCT : (73 : TypeId) ≠ 51 := by decide
/-- Columns are gathered in a struct of one's own. -/
structure HeldI (u : World) (g0 g4 g5 : Nat) (c0 c4 : Array Value) (s : Sst) (i : Nat) (A : Option Addr) (c : Nat) (css : List (List Value)) (wr : World) : Prop where
  grew : Grew u wr
  b0 : Blok wr g0 51 c0
  b4 : Blok wr g4 51 c4
  b5 : Blok wr g5 51 #[.int .i64 (cutI s.rows), .slice A i c]
  own : wr.ownsRow (g5 + 1) 73 3 (.slice A i c) i css.flatten
  rows : ListR (CstR (MRow u wr)) 3 (heldP s i) css
theorem HeldI.on {u : World} {g0 g4 g5 : Nat} {c0 c4 : Array Value} {s : Sst} {i : Nat} {A : Option Addr} {c : Nat} {css : List (List Value)} {wr w' : World} (h : HeldI u g0 g4 g5 c0 c4 s i A c css wr) (k : Grew wr w') : HeldI u g0 g4 g5 c0 c4 s i A c css w' := by
  obtain ⟨x, rfl⟩ := k
  exact ⟨h.grew.more x, h.b0.more x, h.b4.more x, h.b5.more x, own_more h.own x, h.rows.map fun y cs hy => hy.imp fun A xs hm => hm.grew ⟨x, rfl⟩⟩
theorem HeldI.snoc {u : World} {g0 g4 g5 : Nat} {c0 c4 : Array Value} {s : Sst} {i : Nat} {A A' : Option Addr} {c c' : Nat} {css : List (List Value)} {cs : List Value} {wr w' : World} (h : HeldI u g0 g4 g5 c0 c4 s i A c css wr)
    (hu : u.heap.size ≤ g5) (h0 : g0 < g5) (h4 : g4 < g5) (hx : CstR (MRow u wr) (heldC (cutI s.rows) (colAt s i)) cs)
    (ho : w'.ownsRow (g5 + 1) 73 3 (.slice A' (i + 1) c') (i + 1) (css.flatten ++ cs)) (hb : wr.grownBy w' (Value.slice A i c).ownBlock) :
    HeldI u g0 g4 g5 c0 c4 s (i + 1) A' c' (css ++ [cs]) (w'.setCell ⟨g5, 1, none⟩ (.slice A' (i + 1) c')) := by
  have hrow : ∀ k, (Value.slice A i c).ownBlock = some k → g5 + 1 ≤ k := own_base h.own
  have hg : Grew u w' := h.grew.grown hb fun k hk => by have := hrow k hk; omega
  have b0 := h.b0.grown hb (fun e => by have := hrow _ e; omega)
  have b4 := h.b4.grown hb (fun e => by have := hrow _ e; omega)
  have b5 := h.b5.grown hb (fun e => by have := hrow _ e; omega)
  have hlen : cs.length = 3 := by obtain ⟨_, _, rfl, _⟩ := hx; rfl
  have H : ∀ B xs, MRow u wr 3 B xs → MRow u (w'.setCell ⟨g5, 1, none⟩ (.slice A' (i + 1) c')) 3 B xs := fun B xs hm => (hm.grown h.own neCS hb).turns ((Turns.refl _ _).set _ _) b5 neST
  refine ⟨hg.setCell (a := ⟨g5, 1, none⟩) hu _, b0.far (by show g0 ≠ g5; omega) _, b4.far (by show g4 ≠ g5; omega) _, ?_, ?_, ?_⟩
  · have := b5.set 1 (.slice A' (i + 1) c')
    simpa using this
  · rw [List.flatten_append]
    simp only [List.flatten_cons, List.flatten_nil, List.append_nil]
    exact ownsRow_setCell_below ho (a := ⟨g5, 1, none⟩) (Nat.lt_succ_self _) _
  · rw [heldP_snoc]
    exact (h.rows.map fun y ds hy => hy.imp H).snoc (hx.imp H) hlen
def HeldAt (u : World) (g0 g4 g5 : Nat) (c0 c4 : Array Value) (s : Sst) (N : Nat) (v : Value) (wr : World) : Prop := ∃ (i : Nat) (A : Option Addr) (c : Nat) (css : List (List Value)), i ≤ N ∧ v = .int .i64 i ∧ HeldI u g0 g4 g5 c0 c4 s i A c css wr
theorem HeldI.done {u : World} {g0 g4 g5 : Nat} {c0 c4 : Array Value} {s : Sst} {i : Nat} {A : Option Addr} {c : Nat} {css : List (List Value)} {wr : World} (h : HeldI u g0 g4 g5 c0 c4 s i A c css wr) : CstsR (PRow wr) A (heldP s i) := by
  obtain ⟨A', c', e, hr⟩ := own_row h.own
  injection e with e _ _
  subst e
  exact ⟨css, h.rows.map fun y cs hy => hy.imp fun B xs hm => hm.plain h.grew, hr⟩
theorem HeldI.res {u : World} {g0 g4 g5 : Nat} {c0 c4 : Array Value} {s : Sst} {i : Nat} {A : Option Addr} {c : Nat} {css : List (List Value)} {wr : World} (h : HeldI u g0 g4 g5 c0 c4 s i A c css wr) (hu : u.heap.size ≤ g4) (h4 : g4 < g5) (v0 v1 : Value) :
    Grew u ((wr.setCell ⟨g4, 0, none⟩ v0).setCell ⟨g4, 1, none⟩ v1) ∧ CstsR (PRow ((wr.setCell ⟨g4, 0, none⟩ v0).setCell ⟨g4, 1, none⟩ v1)) A (heldP s i) := by
  have hg : Grew u ((wr.setCell ⟨g4, 0, none⟩ v0).setCell ⟨g4, 1, none⟩ v1) := Grew.setCell (Grew.setCell h.grew (a := ⟨g4, 0, none⟩) hu _) (a := ⟨g4, 1, none⟩) hu _
  have ho := ownsRow_setCell_below (ownsRow_setCell_below h.own (a := ⟨g4, 0, none⟩) (by show g4 < _; omega) v0) (a := ⟨g4, 1, none⟩) (by show g4 < _; omega) v1
  obtain ⟨A', c', e, hr⟩ := own_row ho
  injection e with e _ _
  subst e
  have k := ((Turns.refl wr g4).set 0 v0).set 1 v1
  exact ⟨hg, css, h.rows.map fun y cs hy => hy.imp fun B xs hm => (hm.turns k h.b4 neST).plain hg, hr⟩
theorem boxC {w : World} {g : Nat} {v0 v1 v2 : Value} (h : Blok w g 73 #[v0, v1, v2]) : g < w.heap.size ∧ w.cell? ⟨g, 0, none⟩ = some v0 ∧ w.cell? ⟨g, 1, none⟩ = some v1 ∧ w.cell? ⟨g, 2, none⟩ = some v2 ∧ w.frozen? ⟨g, 0, none⟩ = false ∧ w.frozen? ⟨g, 1, none⟩ = false ∧ w.frozen? ⟨g, 2, none⟩ = false := ⟨h.lt, h.cell 0, h.cell 1, h.cell 2, h.thaw 0, h.thaw 1, h.thaw 2⟩
theorem boxS2 {w : World} {g : Nat} {v0 v1 : Value} (h : Blok w g 51 #[v0, v1]) : g < w.heap.size ∧ w.cell? ⟨g, 0, none⟩ = some v0 ∧ w.cell? ⟨g, 1, none⟩ = some v1 ∧ w.frozen? ⟨g, 0, none⟩ = false ∧ w.frozen? ⟨g, 1, none⟩ = false := ⟨h.lt, h.cell 0, h.cell 1, h.thaw 0, h.thaw 1⟩
theorem colI_at (s : Sst) (i : Nat) : colI s.cols i = colAt s i := by
  unfold colI colAt
  rw [if_pos (by omega), Int.toNat_natCast]
theorem near_min (n high : Int) (h : 0 ≤ high) : min high (max 0 n) = nearI n high := by
  unfold nearI
  split
  · omega
  · split <;> omega
set_option maxHeartbeats 4000000 in
set_option maxRecDepth 100000 in
theorem held27_any (s : Sst) (A : Option Addr) (k : Nat) (cols : Int) (hm : ∀ x ∈ s.cols, x.m.length ≤ 1000000) (w : World) (ra : CstsR (PRow w) A s.cols) :
    Calls Tryd.prog 42 #[.agg #[.int .i64 s.rows, .slice A s.cols.length k], .int .i64 cols] w (HeldF w (heldS s cols)) := by
  have HCol : Hid (∀ (i : Nat) W, Grew w W → Calls Tryd.prog 53 #[.agg #[.int .i64 s.rows, .slice A s.cols.length k], .int .i64 i] W (ColF W (colAt s i))) := Lib.hid fun i W hW => by
    rw [← colI_at]
    exact col_any s.rows s.cols A k i hm W (ra.grew hW)
  have HMl : Hid (∀ i, (colAt s i).m.length ≤ 1000000) := Lib.hid fun i => by
    unfold colAt
    rw [List.getD_eq_getElem?_getD]
    cases h : s.cols[i]? with
    | none => exact Nat.zero_le _
    | some x => exact hm x (List.mem_of_getElem? h)
  have HS0 : Hid (0 ≤ cutI s.rows) := Lib.hid (cutI_s s.rows).1
  have HFin : Hid (∀ B j W, Grew w W → CstsR (PRow W) B (heldP s (heldN cols)) → HeldF w (heldS s cols) (.returned (.agg #[.int .i64 (cutI s.rows), .slice B (heldN cols) j])) W) := Lib.hid fun B j W hW hR => ⟨B, j, by show _ = Ending.returned (.agg #[.int .i64 (cutI s.rows), .slice B (heldP s (heldN cols)).length j]); rw [heldP_len], hW, hR⟩
  have hN := heldN_le cols
  have eN : min (16 : Int) (max 0 cols) = (heldN cols : Int) := by
    rw [near_min _ _ (by decide)]
    unfold heldN
    have := nearI_in (n := cols) (high := 16) (by decide)
    omega
  obtain ⟨mx, hmx⟩ : ∃ mx, max (0 : Int) cols = mx := ⟨_, rfl⟩
  rw [hmx] at eN
  clear hm ra
  generalize hNN : heldN cols = N at *
  clear hNN
  generalize HeldF w (heldS s cols) = F at *
  obtain ⟨W0, hW0⟩ : ∃ W0, W0 = ((w.alloc (.cells #[.int .i64 s.rows, .slice A s.cols.length k] 51)).alloc (.cells #[.int .i64 0, .slice none 0 0] 51)).alloc (.cells #[.int .i64 (cutI s.rows), .slice none 0 0] 51) := ⟨_, rfl⟩
  have HI0 : Hid (HeldI w w.heap.size (w.heap.size + 1) (w.heap.size + 2) #[.int .i64 s.rows, .slice A s.cols.length k] #[.int .i64 0, .slice none 0 0] s 0 none 0 [] W0) := Lib.hid (by
    rw [hW0]
    exact ⟨(((Grew.refl w).alloc _).alloc _).alloc _, ((Blok.new _ _ _ _ rfl).alloc _).alloc _, (Blok.new _ _ _ _ (by simp)).alloc _, Blok.new _ _ _ _ (by simp), own_none _ _ _ _, ListR.nil⟩)
  go_enter Tryd.func42, Tryd.ntmps42
  go_upto_region 2 with (first | (go_at_call 49; refine (cut_any _ _).mono ?_; rintro e w' ⟨rfl, rfl⟩))
  rw [← hW0]
  clear hW0
  have hu5 : w.heap.size ≤ w.heap.size + 2 := by omega
  have h05 : w.heap.size < w.heap.size + 2 := by omega
  have h45 : w.heap.size + 1 < w.heap.size + 2 := by omega
  generalize hg5 : w.heap.size + 2 = g5 at *
  generalize hg4 : w.heap.size + 1 = g4 at *
  generalize hg0 : w.heap.size = g0 at *
  go_wp2
  go_loopw [15] (fun v wr => HeldAt w g0 g4 g5 #[.int .i64 s.rows, .slice A s.cols.length k] #[.int .i64 0, .slice none 0 0] s N v wr) (fun v _ => N - (intOf v).toNat)
  case atStart => exact ⟨0, none, 0, [], Nat.zero_le _, rfl, HI0.out⟩
  case round =>
    obtain ⟨i, A', c, css, hi, rfl, hI⟩ := hrel
    have HI := Lib.hid hI
    obtain ⟨x1, x2, x3⟩ := boxS hI.b0
    clear hI HI0
    by_cases h : i < N
    · go_wp2_with fail
      refine (HCol.out i _ HI.out.grew).mono ?_
      rintro e w2 ⟨B, j, rfl, hg2, ho2⟩
      have hml := HMl.out i
      generalize hx : colAt s i = x at ho2 hml ⊢
      obtain ⟨u, n, m⟩ := x
      have HX := Lib.hid hx
      simp only at ho2 hml ⊢
      have hcap := own_cap ho2
      have HO2 := Lib.hid ho2
      have HI2 := Lib.hid (HI.out.on hg2)
      have HG2 := Lib.hid hg2
      have hsz2 := hg2.size
      clear hg2 ho2 hx x1 x2 x3 HCol HMl
      go_upto_region 6 with fail
      obtain ⟨w3, hw3⟩ : ∃ w3, w3 = w2.alloc (.cells #[.int .i64 u, .int .i64 n, .slice B m.length j] 73) := ⟨_, rfl⟩
      have HB7 : Hid (Blok w3 w2.heap.size 73 #[.int .i64 u, .int .i64 n, .slice B m.length j]) := Lib.hid (by rw [hw3]; exact Blok.new _ _ _ _ rfl)
      have HI3 := Lib.hid (HI2.out.on (show Grew w2 w3 by rw [hw3]; exact (Grew.refl _).alloc _))
      have HO3 : Hid (w3.ownsRow wr.heap.size 3 1 (.slice B m.length j) m.length (iV m)) := Lib.hid (by rw [hw3]; exact own_alloc HO2.out _)
      have hG3 : Hid (Grew wr w3) := Lib.hid (by rw [hw3]; exact (Grew.trans HG2.out (Grew.refl _)).alloc _)
      have HOl : Hid (∀ k, (Value.slice B m.length j).ownBlock = some k → k < w2.heap.size) := Lib.hid (own_lt HO2.out)
      have hg5l : g5 < wr.heap.size := HI.out.b5.lt
      rw [← hw3]
      clear hw3 HO2 HI2 HG2
      generalize w2.heap.size = g7 at *
      have h57 : g5 ≠ g7 := by omega
      have h75 : g7 ≠ g5 := by omega
      obtain ⟨z1, z2, z3, z4, z5⟩ := boxS2 HI3.out.b5
      obtain ⟨y1, y2, y3, y4, y5, y6, y7⟩ := boxC HB7.out
      have HRc : Hid (heldC (cutI s.rows) (colAt s i) = heldC (cutI s.rows) ⟨u, n, m⟩) := Lib.hid (by rw [HX.out])
      have HSI : Hid (sI (cutI s.rows)) := Lib.hid (cutI_s s.rows)
      obtain ⟨rc, hrc⟩ : ∃ rc, cutI s.rows = rc := ⟨_, rfl⟩
      rw [hrc] at z2 HRc HSI HS0
      have HRq := Lib.hid hrc
      clear hrc
      have hnn0 := nearI_in (n := n) HS0.out
      obtain ⟨nn, hnn⟩ : ∃ nn, nearI n rc = nn := ⟨_, rfl⟩
      rw [hnn] at hnn0
      obtain ⟨mn, hmn⟩ : ∃ mn, max (0 : Int) n = mn := ⟨_, rfl⟩
      have e2 : min rc mn = nn := by rw [← hmn, near_min _ _ HS0.out, hnn]
      obtain ⟨d, hd⟩ : ∃ d, rc - nn = d := ⟨_, rfl⟩
      have e3 : IntKind.i64.wrap (rc - nn) = d := by
        rw [← hd]
        exact IntWalk.i64_in _ (by have := HSI.out; unfold sI at this; omega)
      have hd0 : 0 ≤ d := by omega
      obtain ⟨uu, huu⟩ : ∃ uu, nearI u d = uu := ⟨_, rfl⟩
      obtain ⟨mu, hmu⟩ : ∃ mu, max (0 : Int) u = mu := ⟨_, rfl⟩
      have e5 : min d mu = uu := by rw [← hmu, near_min _ _ hd0, huu]
      obtain ⟨mq, hmq⟩ : ∃ mq, m.take 9 = mq := ⟨_, rfl⟩
      have hml9 : mq.length = min 9 m.length := by rw [← hmq, List.length_take]
      have e6 : min (9 : Int) (m.length : Int) = (mq.length : Nat) := by omega
      have hmq1 : mq.length ≤ m.length := by omega
      have hqj : (mq.length : Int) ≤ (j : Int) := by omega
      have HC1 : Hid (heldC rc ⟨u, n, m⟩ = ⟨uu, nn, sortI mq⟩) := Lib.hid (by
        unfold heldC
        simp only
        rw [hnn, hd, huu, hmq])
      have HMq : Hid ((iV m).take mq.length = iV mq) := Lib.hid (by
        unfold iV
        rw [← List.map_take, hml9, ← hmq]
        rcases Nat.le_total 9 m.length with h9 | h9
        · rw [Nat.min_eq_left h9]
        · rw [Nat.min_eq_right h9, List.take_of_length_le (Nat.le_refl _), List.take_of_length_le h9])
      have hq9 : mq.length ≤ 9 := by omega
      have HHd := hd
      clear hnn0 hnn hd hd0 huu hmq hml9 HX HS0 HSI HHd hml
      go_upto_region 9 with fail
      have HB9 : Hid (Blok (((w3.setCell ⟨g7, 1, none⟩ (.int .i64 nn)).setCell ⟨g7, 0, none⟩ (.int .i64 uu)).setCell ⟨g7, 2, none⟩ (.slice B mq.length j)) g7 73 #[.int .i64 uu, .int .i64 nn, .slice B mq.length j]) := Lib.hid (by
        have := ((HB7.out.set 1 (.int .i64 nn)).set 0 (.int .i64 uu)).set 2 (.slice B mq.length j)
        simpa using this)
      have hw7 : wr.heap.size ≤ g7 := hsz2
      have HG9 : Hid (Grew wr (((w3.setCell ⟨g7, 1, none⟩ (.int .i64 nn)).setCell ⟨g7, 0, none⟩ (.int .i64 uu)).setCell ⟨g7, 2, none⟩ (.slice B mq.length j))) := Lib.hid (Grew.setCell (Grew.setCell (Grew.setCell hG3.out (a := ⟨g7, 1, none⟩) hw7 _) (a := ⟨g7, 0, none⟩) hw7 _) (a := ⟨g7, 2, none⟩) hw7 _)
      have HO9 : Hid (World.ownsRow (((w3.setCell ⟨g7, 1, none⟩ (.int .i64 nn)).setCell ⟨g7, 0, none⟩ (.int .i64 uu)).setCell ⟨g7, 2, none⟩ (.slice B mq.length j)) wr.heap.size 3 1 (.slice B mq.length j) mq.length (iV mq)) := Lib.hid (by
        have hne : ∀ q, (Value.slice B m.length j).ownBlock = some q → q ≠ g7 := fun q hq => by have := HOl.out q hq; omega
        have := own_cut (own_aside2 (p := ⟨g7, 2, none⟩) (own_aside2 (p := ⟨g7, 0, none⟩) (own_aside2 (p := ⟨g7, 1, none⟩) HO3.out hne (.int .i64 nn)) hne (.int .i64 uu)) hne (.slice B mq.length j)) hmq1
        rw [HMq.out] at this
        exact this)
      have HOl9 : Hid (∀ k, (Value.slice B mq.length j).ownBlock = some k → k < g7) := Lib.hid fun k hk => HOl.out k (by cases B <;> exact hk)
      clear y1 y2 y3 y4 y5 y6 y7 z1 z2 z3 z4 z5 HB7 HI3 hG3 HO3 HOl HMq hmn e2 e3 e5 hmu
      generalize (((w3.setCell ⟨g7, 1, none⟩ (.int .i64 nn)).setCell ⟨g7, 0, none⟩ (.int .i64 uu)).setCell ⟨g7, 2, none⟩ (.slice B mq.length j)) = w9 at *
      obtain ⟨y1, y2, y3, y4, y5, y6, y7⟩ := boxC HB9.out
      go_wp2_with fail
      refine (sort_own mq (by omega) B j wr.heap.size w9 HO9.out).mono ?_
      rintro e w4 ⟨rfl, ho4, hb4⟩
      have hrow4 : ∀ k, (Value.slice B mq.length j).ownBlock = some k → wr.heap.size ≤ k := own_base HO9.out
      have HG4 : Hid (Grew wr w4) := Lib.hid (HG9.out.grown hb4 hrow4)
      have HB4 : Hid (Blok w4 g7 73 #[.int .i64 uu, .int .i64 nn, .slice B mq.length j]) := Lib.hid (HB9.out.grown hb4 (fun e => by have := HOl9.out _ e; omega))
      have HI4 := Lib.hid (HI.out.on HG4.out)
      have HX4 : Hid (∀ W, Grew w4 W → CstR (MRow w W) (heldC rc ⟨u, n, m⟩) [.int .i64 uu, .int .i64 nn, .slice B mq.length j]) := Lib.hid fun W hW => by
        rw [HC1.out]
        refine ⟨B, j, ?_, ?_, (MRow.own (own_le ho4 ?_)).grew hW⟩
        · show _ = [_, _, Value.slice B (sortI mq).length j]
          rw [sortI_len]
        · show (sortI mq).length ≤ j
          rw [sortI_len]
          omega
        · rw [hg0]; omega
      clear y1 y2 y3 y4 y5 y6 y7 ho4 hb4 hrow4 HB9 HG9 HO9 HOl9 HC1
      obtain ⟨y1, y2, y3, y4, y5, y6, y7⟩ := boxC HB4.out
      obtain ⟨z1, z2, z3, z4, z5⟩ := boxS2 HI4.out.b5
      have hone : ∀ x ∈ [Value.int .i64 uu, .int .i64 nn, .slice B mq.length j], x.oneCell' = true := by
        intro x hx
        simp at hx
        rcases hx with rfl | rfl | rfl <;> rfl
      have HOne := Lib.hid hone
      have HIa := Lib.hid (HI4.out.on ((Grew.refl w4).alloc (.cells #[.int .i64 uu, .int .i64 nn, .slice B mq.length j] 73)))
      have HXa := Lib.hid (HX4.out _ ((Grew.refl w4).alloc (.cells #[.int .i64 uu, .int .i64 nn, .slice B mq.length j] 73)))
      have hg54 : g5 + 1 ≤ w4.heap.size := z1
      clear hone HX4 HG4 z2
      go_wp2_with (at_builtin; refine wpList_appB rfl _ _ 49 73 3 rfl (g5 + 1) (.agg #[.int .i64 0, .int .i64 0, .slice none 0 0]) 40 Tryd.underlying49 infoCs rfl (by decide) (by decide) _ i css.flatten rfl HIa.out.own _ 1 1 [.int .i64 uu, .int .i64 nn, .slice B mq.length j] rfl rfl (row_new _ _ _ _ rfl) HOne.out (by omega) (by rw [World.size_alloc]; omega) ?_; intro A6 c6 w6 ho6 hb6; have HI6 := Lib.hid (HIa.out.snoc (by rw [hg0]; exact hu5) h05 h45 (by rw [HRq.out, HRc.out]; exact HXa.out) ho6 hb6); obtain ⟨v1, v2, v3, v4, v5⟩ := boxS2 (HIa.out.b5.grown hb6 (fun e => by have := own_base HIa.out.own _ e; omega)); clear ho6 hb6 v2)
      exact ⟨⟨i + 1, A6, c6, _, by omega, by go_num, HI6.out⟩, by simp only [intOf]; omega⟩
    · obtain rfl : i = N := by omega
      have HD := Lib.hid (HI.out.res (by rw [hg0]; omega) h45 (.int .i64 (cutI s.rows)) (.slice A' i c))
      have HE := Lib.hid (HFin.out A' c _ HD.out.1 HD.out.2)
      obtain ⟨z1, z2, z3, z4, z5⟩ := boxS2 HI.out.b5
      obtain ⟨y1, y2, y3, y4, y5⟩ := boxS2 HI.out.b4
      have HB4 := Lib.hid HI.out.b4
      clear HFin HCol HMl x1 x2 x3 HD
      go_wp2
      have bf := (HB4.out.set 0 (.int .i64 (cutI s.rows))).set 1 (.slice A' i c)
      have q0 := bf.cell 0
      have q1 := bf.cell 1
      simp at q0 q1
      exact bodyPost_ret (v := .agg #[.int .i64 (cutI s.rows), .slice A' i c]) (by simp [results, Tryd.results42, go_sem, q0, q1]) rfl HE.out
end Go.Proofs.YtbglmcebkpkccaaDoor

/- Layer 27: is it held as it is: the same columns, by the library and the program. Condition: no more than a million columns. -/
namespace Go.Proofs.YtbglmcebkpkccaaDoor
open Go.RowKit
attribute [local go_sem] more_cell more_frozen more_more more_setCell more_of_drew more_of_drewN lt_more le_more past_cell past_cell2 past_frozen past_frozen2 past_setCell past_setCell2 mid_cell mid_frozen mid_setCell
attribute [local go_sem ↓] Go.wp_at_zero Go.wp_at_succ

theorem cst_cases2 (x y : Cst) : ((x.u == y.u) = false) ∨ (x.u = y.u ∧ (x.n == y.n) = false) ∨ (x.u = y.u ∧ x.n = y.n) := by
  by_cases h1 : x.u = y.u
  · by_cases h2 : x.n = y.n
    · exact Or.inr (Or.inr ⟨h1, h2⟩)
    · exact Or.inr (Or.inl ⟨h1, by simpa using h2⟩)
  · exact Or.inl (by simpa using h1)
theorem heldP_small (s : Sst) (k : Nat) : ∀ x ∈ heldP s k, x.m.length ≤ 9 := by
  intro x hx
  obtain ⟨c, _, rfl⟩ := List.mem_map.1 hx
  show (sortI ((colAt s c).m.take 9)).length ≤ 9
  rw [sortI_len, List.length_take]
  omega
end Go.Proofs.YtbglmcebkpkccaaDoor

namespace Go.Proofs.YtbglmcebkpkccaaDoor
open Go.RowKit
attribute [local go_sem] more_cell more_frozen more_more more_setCell more_of_drew more_of_drewN lt_more le_more past_cell past_cell2 past_frozen past_frozen2 past_setCell past_setCell2 mid_cell mid_frozen mid_setCell
attribute [local go_sem ↓] Go.wp_at_zero Go.wp_at_succ
end Go.Proofs.YtbglmcebkpkccaaDoor
