/- Layer 8: expressions that are made; the page's example; what is more than is asked. Condition: expressions that lie in memory that is there. -/
import Derived.Test.YtoaciliojdaoaaaTree9
import Derived.Test.YtoaciliojdaoaaaMuchR
namespace Go.Proofs.Ytoaciliojdaoaaa
open Go.RowKit
attribute [local go_sem] more_cell more_frozen more_more more_setCell more_of_drew more_of_drewN lt_more le_more past_cell past_cell2 past_frozen past_frozen2 past_setCell past_setCell2 mid_cell mid_frozen mid_setCell
attribute [local go_sem ↓] Go.wp_at_zero Go.wp_at_succ

theorem much8_any (x : Ex) (A : Option Addr) (k : Nat) (w : World) (ra : ExsR (PRow w) A x.l) : Calls Try.prog 21 #[exV x A k] w (MuchR w (x.nodes ≤ 200)) := by
  have HC : Hid (∀ W, Grew w W → Calls Try.prog 49 #[exV x A k, .int .i64 ((400 : Nat) : Int)] W (CountR W x 400)) := Lib.hid fun W hW => count_any _ x (Nat.lt_succ_self _) A k 400 (by omega) (by omega) W (ra.grew hW)
  clear ra
  unfold exV at *
  go_enter Try.func21, Try.ntmps21
  go_wp2_with fail
  refine (HC.out _ ((Grew.refl w).alloc _)).mono ?_
  rintro e w2 ⟨m, rfl, hg2, h1, h2, h3⟩
  have HG2 : Hid (Grew w w2) := Lib.hid (((Grew.refl w).alloc _).trans hg2)
  have HM : Hid (m < 400 → x.nodes = m) := Lib.hid h3
  clear hg2 h3
  go_wp2
  go_ret
  exact muchR_dec (c := (200 : Int) < m) HG2.out (fun hc => by have := HM.out (by omega); omega)
def es : ByteArray := ⟨#[]⟩
theorem exs_none {R : Rw} (hR : ∀ e xs, R e none xs → xs = []) {l : List Ex} (h : ExsR R none l) : l = [] := by
  obtain ⟨css, h1, h2⟩ := h
  have e := h1.flat
  rw [hR _ _ h2] at e
  simp at e
  exact List.eq_nil_of_length_eq_zero (by omega)
theorem prow_none {w : World} (e : TypeId) (xs : List Value) (h : PRow w e none xs) : xs = [] := by
  rcases h with h | ⟨b, o, hA, _⟩
  · exact h
  · cases hA
@[local go_sem] theorem eql_nilE (w : World) (a : Option Addr) (n c : Nat) : (binOp .eql 22 (.slice a n c) (.slice none 0 0)).run Try.prog w = .ok (.bool a.isNone) w := Lib.run_eql_slice_nil w _ _ a n c 0 0 Try.underlying22
/-- A copy of expressions is handed back: in a row of one's own. -/
def OwnF (u w : World) (l : List Ex) (e : Ending) (w' : World) : Prop := ∃ A k, e = .returned (.slice A l.length k) ∧ Grew w w' ∧ ExOwn u w' w.heap.size A k l
set_option maxHeartbeats 1000000 in
set_option maxRecDepth 100000 in
theorem clone_ex (l : List Ex) (A : Option Addr) (k : Nat) (hl : l.length ≤ 1000000) (u w : World) (hu : Grew u w) (ra : ExsR (PRow u) A l) : Calls Try.prog 38 #[.slice A l.length k] w (OwnF u w l) := by
  cases A with
  | none =>
    obtain rfl := exs_none prow_none ra
    clear ra
    go_enter Try.func38, Try.ntmps38
    go_wp2
    go_ret
    exact ⟨none, 0, rfl, by (show Grew _ _; repeat (first | exact Grew.refl _ | refine Grew.alloc ?_ _ | refine Grew.drew ?_ | refine Grew.more ?_ _)), [], ListR.nil, own_none _ _ _ _⟩
  | some a =>
    obtain ⟨css, h1, h2⟩ := ra
    have HL := Lib.hid h1
    have HR := Lib.hid (Row.grew h2 hu)
    have hfl := h1.flat
    have HOne := Lib.hid (listR_one h1)
    clear h1 h2
    go_enter Try.func38, Try.ntmps38
    go_wp2_with (at_builtin; refine wpList_apps rfl (.tmp 5) (.tmp 6) 22 27 9 rfl w (.agg #[.int .i64 0, .string ⟨#[]⟩, .string ⟨#[]⟩, .int .i64 0, .int .i64 0, .int .i64 0, .int .i64 0, .string ⟨#[]⟩, .slice none 0 0]) 112 Try.underlying22 infoE rfl (by decide) (by decide) _ 0 [] rfl (own_empty _ _ _ _ _ rfl (Nat.le_refl _)) (some a) l.length k css.flatten rfl hfl (Row.grew HR.out ((Grew.refl w).alloc _)) HOne.out (by omega) ((Grew.refl w).alloc _) ?_)
    intro A2 c2 w2 ho2 hr2 hg2 _ _
    have HX : Hid (ExOwn u w2 w.heap.size A2 c2 l) := Lib.hid ⟨css, HL.out, by simpa using ho2⟩
    have HG := Lib.hid hg2
    clear ho2 hr2 hg2 HL HR HOne
    go_wp2
    go_ret
    exact ⟨A2, c2, by simp, HG.out, HX.out⟩
/-- An expression that was made is handed back. -/
def ExF (w : World) (x : Ex) (e : Ending) (w' : World) : Prop := ∃ A k, e = .returned (exV x A k) ∧ Grew w w' ∧ ExsR (PRow w') A x.l
theorem grew_nine {u w : World} {b p : Nat} (h : Grew u w) (ha : u.heap.size ≤ b) (v0 v1 v2 v3 v4 v5 v6 v7 v8 : Value) :
    Grew u (((((((((w.setCell ⟨b, p, none⟩ v0).setCell ⟨b, p + 1, none⟩ v1).setCell ⟨b, p + 2, none⟩ v2).setCell ⟨b, p + 3, none⟩ v3).setCell ⟨b, p + 4, none⟩ v4).setCell ⟨b, p + 5, none⟩ v5).setCell ⟨b, p + 6, none⟩ v6).setCell ⟨b, p + 7, none⟩ v7).setCell ⟨b, p + 8, none⟩ v8) :=
  ((((((((h.setCell (a := ⟨b, p, none⟩) ha v0).setCell (a := ⟨b, p + 1, none⟩) ha v1).setCell (a := ⟨b, p + 2, none⟩) ha v2).setCell (a := ⟨b, p + 3, none⟩) ha v3).setCell (a := ⟨b, p + 4, none⟩) ha v4).setCell (a := ⟨b, p + 5, none⟩) ha v5).setCell (a := ⟨b, p + 6, none⟩) ha v6).setCell (a := ⟨b, p + 7, none⟩) ha v7).setCell (a := ⟨b, p + 8, none⟩) ha v8
theorem own_below_nine {w : World} {base : Nat} {e : TypeId} {size n b p : Nat} {v : Value} {xs : List Value} (h : w.ownsRow base e size v n xs) (hb : b < base) (v0 v1 v2 v3 v4 v5 v6 v7 v8 : Value) :
    (((((((((w.setCell ⟨b, p, none⟩ v0).setCell ⟨b, p + 1, none⟩ v1).setCell ⟨b, p + 2, none⟩ v2).setCell ⟨b, p + 3, none⟩ v3).setCell ⟨b, p + 4, none⟩ v4).setCell ⟨b, p + 5, none⟩ v5).setCell ⟨b, p + 6, none⟩ v6).setCell ⟨b, p + 7, none⟩ v7).setCell ⟨b, p + 8, none⟩ v8).ownsRow base e size v n xs := by
  repeat refine ownsRow_setCell_below ?_ (by exact hb) _
  exact h
theorem blok_nine {w : World} {b : Nat} {t : TypeId} {z0 z1 z2 z3 z4 z5 z6 z7 z8 : Value} (h : Blok w b t #[z0, z1, z2, z3, z4, z5, z6, z7, z8]) (v0 v1 v2 v3 v4 v5 v6 v7 v8 : Value) :
    Blok (((((((((w.setCell ⟨b, 0, none⟩ v0).setCell ⟨b, 1, none⟩ v1).setCell ⟨b, 2, none⟩ v2).setCell ⟨b, 3, none⟩ v3).setCell ⟨b, 4, none⟩ v4).setCell ⟨b, 5, none⟩ v5).setCell ⟨b, 6, none⟩ v6).setCell ⟨b, 7, none⟩ v7).setCell ⟨b, 8, none⟩ v8) b t #[v0, v1, v2, v3, v4, v5, v6, v7, v8] := by
  have := ((((((((h.set 0 v0).set 1 v1).set 2 v2).set 3 v3).set 4 v4).set 5 v5).set 6 v6).set 7 v7).set 8 v8
  simpa using this
theorem blok9c {w : World} {b : Nat} {t : TypeId} {z0 z1 z2 z3 z4 z5 z6 z7 z8 : Value} (h : Blok w b t #[z0, z1, z2, z3, z4, z5, z6, z7, z8]) :
    b < w.heap.size ∧ w.cell? ⟨b, 0, none⟩ = some z0 ∧ w.cell? ⟨b, 1, none⟩ = some z1 ∧ w.cell? ⟨b, 2, none⟩ = some z2 ∧ w.cell? ⟨b, 3, none⟩ = some z3 ∧ w.cell? ⟨b, 4, none⟩ = some z4 ∧ w.cell? ⟨b, 5, none⟩ = some z5 ∧ w.cell? ⟨b, 6, none⟩ = some z6 ∧ w.cell? ⟨b, 7, none⟩ = some z7 ∧ w.cell? ⟨b, 8, none⟩ = some z8 :=
  ⟨h.lt, h.cell 0, h.cell 1, h.cell 2, h.cell 3, h.cell 4, h.cell 5, h.cell 6, h.cell 7, h.cell 8⟩
theorem exs_nil (w : World) : ExsR (PRow w) none [] := ⟨[], ListR.nil, Or.inl rfl⟩
/-- The page's example. -/
def live8E : Ex := .mk 7 es es 0 0 0 0 es [.mk 15 ⟨#[97]⟩ ⟨#[120]⟩ 0 0 0 0 es [], .mk 16 es es 0 0 1 1 es []]
theorem live8_nodes : live8E.nodes = 3 := by simp [live8E, Ex.nodes, nodesL]
theorem live8_depth : live8E.depth = 2 := by simp [live8E, Ex.depth, depthL]
theorem live8_cols : live8E.cols.length = 1 := by simp [live8E, Ex.cols, colsE]
theorem live8_level : levelI live8E.op = 5 := by decide
end Go.Proofs.Ytoaciliojdaoaaa
