/- Layer 39: a column, the document's own. -/
import Derived.Test.YtcokhgomibimcaaAsk3
import Derived.Test.YtcokhgomibimcaaAskMath2
namespace Go.Proofs.Ytcokhgomibimcaa
open Go.RowKit
attribute [local go_sem] more_cell more_frozen more_more more_setCell more_of_drew more_of_drewN lt_more le_more past_cell past_cell2 past_frozen past_frozen2 past_setCell past_setCell2 mid_cell mid_frozen mid_setCell
attribute [local go_sem ↓] Go.wp_at_zero Go.wp_at_succ

/-- A column and the place behind it, or none. -/
def ColOut (l : List Nat) (w : World) (s : ColS × St) (e : Ending) (w' : World) : Prop := Grew w w' ∧
  ((s.2.2 = true ∧ e = .returned (.tuple #[.agg #[.int .i64 0, .int .i64 0, .slice none 0 0], .int .i64 0, .bool false])) ∨
   ∃ q : Nat, q ≤ l.length ∧ s.2 = (l.drop q, false) ∧ ∃ A k, e = .returned (.tuple #[.agg #[.int .i64 s.1.u, .int .i64 s.1.n, .slice A s.1.m.length k], .int .i64 q, .bool true]) ∧ TRow w.heap.size w' 3 A (iV s.1.m))
set_option maxHeartbeats 4000000 in
set_option maxRecDepth 100000 in
theorem rcol_any (l : List Nat) (A : Option Addr) (c : Nat) (p : Nat) (hp : p ≤ l.length) (hc : l.length ≤ c) (hl : l.length ≤ 1000000) (hx : bytesOk l) (w : World) (hr : Row w A (bV l)) :
    Calls Try.prog 147 #[.slice A l.length c, .int .i64 p] w (ColOut l w (colS (l.drop p, false))) := by
  have HG : Hid (∀ (n : Int) W, Grew w W → Calls Try.prog 23 #[.slice A l.length c, .int .i64 n] W (GetIT W (getI l n))) := Lib.hid fun n W hW => rgetint_any l A c n hc hl hx W (hr.grew hW)
  have HGs : Hid (∀ (n : Int) W, Grew w W → Calls Try.prog 24 #[.slice A l.length c, .int .i64 n] W (GetIsT W (getIs l n))) := Lib.hid fun n W hW => rgetints_any l A c n hc hl hx W (hr.grew hW)
  have hcases : ((colS (l.drop p, false)).2.2 = true ∧ ∃ g1 x y ls, getI l p = g1 ∧ getI l g1.2.1 = x ∧ getIs l x.2.1 = ls ∧ y = (g1.2.2, x.2.2, ls.2.2) ∧ (g1.2.2 = false ∨ (g1.2.2 = true ∧ x.2.2 = false) ∨ (g1.2.2 = true ∧ x.2.2 = true ∧ ls.2.2 = false))) ∨
      ∃ u n m, ∃ x y z : Nat, z ≤ l.length ∧ getI l p = (u, (x : Int), true) ∧ getI l x = (n, (y : Int), true) ∧ getIs l y = (m, (z : Int), true) ∧ colS (l.drop p, false) = (⟨u, n, m⟩, l.drop z, false) := by
    rcases getI_step hx hp with ⟨h0, h1⟩ | ⟨u, x, hx1, h0, h1⟩
    · left
      refine ⟨?_, _, _, _, _, rfl, rfl, rfl, rfl, Or.inl (by rw [h0])⟩
      show (intsS (numS (numS (l.drop p, false)).2).2).2.2 = true
      rw [h1]
      exact (less_ints _).bad ((less_num _).bad rfl)
    · rcases getI_step hx hx1 with ⟨h2, h3⟩ | ⟨n, y, hy1, h2, h3⟩
      · left
        refine ⟨?_, _, _, _, _, rfl, rfl, rfl, rfl, Or.inr (Or.inl ⟨by rw [h0], by rw [h0]; simp only; rw [h2]⟩)⟩
        show (intsS (numS (numS (l.drop p, false)).2).2).2.2 = true
        rw [h1]
        simp only
        rw [h3]
        exact (less_ints _).bad rfl
      · rcases ints_at hx hy1 with ⟨h4, h5⟩ | ⟨m, z, hz, h4, h5⟩
        · left
          refine ⟨?_, _, _, _, _, rfl, rfl, rfl, rfl, Or.inr (Or.inr ⟨by rw [h0], by rw [h0]; simp only; rw [h2], by rw [h0]; simp only; rw [h2]; simp only; rw [h4]⟩)⟩
          show (intsS (numS (numS (l.drop p, false)).2).2).2.2 = true
          rw [h1]
          simp only
          rw [h3]
          exact h5
        · right
          refine ⟨u, n, m, x, y, z, hz, h0, h2, h4, ?_⟩
          unfold colS
          rw [h1]
          simp only
          rw [h3]
          simp only
          rw [h5]
  clear hr hx
  generalize colS (l.drop p, false) = s at *
  rcases hcases with ⟨hbad, g1, x, y, ls, h1, h2, h3, h4, h5⟩ | ⟨u, n, m, x, y, z, hz, h1, h2, h3, h4⟩
  · clear h4
    have G1 := Lib.hid (HG.out p)
    rw [h1] at G1
    have G2 := Lib.hid (HG.out g1.2.1)
    rw [h2] at G2
    have G3 := Lib.hid (HGs.out x.2.1)
    rw [h3] at G3
    clear h1 h2 h3 HG HGs
    obtain ⟨a1, a2, a3⟩ := g1
    obtain ⟨b1, b2, b3⟩ := x
    obtain ⟨ls, k2, k3⟩ := ls
    simp only at h5
    have HBad := Lib.hid hbad
    clear hbad
    have main : ∀ (f1 f2 f3 : Bool), a3 = f1 → b3 = f2 → k3 = f3 → (!f1 || !f2 || !f3) = true → Calls Try.prog 147 #[.slice A l.length c, .int .i64 p] w (ColOut l w s) := by
      intro f1 f2 f3 e1 e2 e3 hf
      subst e1 e2 e3
      clear h5
      cases a3 <;> cases b3 <;> cases k3 <;> first | (exfalso; revert hf; decide) | (
        clear hf
        go_enter Try.func147, Try.ntmps147
        go_wp2_with fail
        refine (G1.out _ ((Grew.refl w).alloc _)).mono ?_
        rintro e w1 ⟨rfl, h1⟩
        have H1 := Lib.hid h1
        clear h1
        go_wp2_with fail
        refine (G2.out _ (((Grew.refl w).alloc _).trans H1.out)).mono ?_
        rintro e w2 ⟨rfl, h2⟩
        have H2 := Lib.hid (H1.out.trans h2)
        clear h2
        go_wp2_with fail
        refine (G3.out _ (((Grew.refl w).alloc _).trans H2.out)).mono ?_
        rintro e w3 ⟨A3, c3, rfl, _, h3⟩
        have B3 := (Blok.new w 101 #[.int .i64 0, .int .i64 0, .slice none 0 0] _ rfl).grew (H2.out.trans h3)
        have H3 := Lib.hid (((Grew.refl w).alloc (.cells #[.int .i64 0, .int .i64 0, .slice none 0 0] 101)).trans (H2.out.trans h3))
        have d0 := B3.cell 0
        have d1 := B3.cell 1
        have d2 := B3.cell 2
        have z0 := B3.thaw 0
        have z1 := B3.thaw 1
        have z2 := B3.thaw 2
        have hlt := B3.lt
        simp at d0 d1 d2
        clear h3 B3
        go_wp2
        refine bodyPost_ret (v := .tuple #[.agg #[.int .i64 0, .int .i64 0, .slice none 0 0], .int .i64 0, .bool false]) (by simp [results, Try.results147, go_sem, d0, d1, d2]) rfl ⟨?_, Or.inl ⟨HBad.out, rfl⟩⟩
        exact ((((Turns.refl w3 w.heap.size).set 0 _).set 1 _).set 2 _).below H3.out (Nat.le_refl _))
    rcases h5 with h | ⟨h, h'⟩ | ⟨h, h', h''⟩
    · exact main _ _ _ h rfl rfl (by simp)
    · exact main _ _ _ h h' rfl (by simp)
    · exact main _ _ _ h h' h'' (by simp)
  · have G1 := Lib.hid (HG.out p)
    rw [h1] at G1
    have G2 := Lib.hid (HG.out x)
    rw [h2] at G2
    have G3 := Lib.hid (HGs.out y)
    rw [h3] at G3
    have HS := Lib.hid h4
    clear h1 h2 h3 h4 HG HGs
    go_enter Try.func147, Try.ntmps147
    go_wp2_with fail
    refine (G1.out _ ((Grew.refl w).alloc _)).mono ?_
    rintro e w1 ⟨rfl, h1⟩
    have H1 := Lib.hid h1
    clear h1
    go_wp2_with fail
    refine (G2.out _ (((Grew.refl w).alloc _).trans H1.out)).mono ?_
    rintro e w2 ⟨rfl, h2⟩
    have H2 := Lib.hid (H1.out.trans h2)
    have hs2 : w.heap.size < w2.heap.size := by have := H2.out.size; simp at this; omega
    clear h2
    go_wp2_with fail
    refine (G3.out _ (((Grew.refl w).alloc _).trans H2.out)).mono ?_
    rintro e w3 ⟨A3, c3, rfl, ho3, h3⟩
    have B3 := (Blok.new w 101 #[.int .i64 0, .int .i64 0, .slice none 0 0] _ rfl).grew (H2.out.trans h3)
    have H3 := Lib.hid (((Grew.refl w).alloc (.cells #[.int .i64 0, .int .i64 0, .slice none 0 0] 101)).trans (H2.out.trans h3))
    have HT3 := Lib.hid (TRow.own ho3)
    have d0 := B3.cell 0
    have d1 := B3.cell 1
    have d2 := B3.cell 2
    have z0 := B3.thaw 0
    have z1 := B3.thaw 1
    have z2 := B3.thaw 2
    have hlt := B3.lt
    simp at d0 d1 d2
    clear h3 B3 ho3
    go_wp2
    have hT := (((Turns.refl w3 w.heap.size).set 0 (.int .i64 u)).set 1 (.int .i64 n)).set 2 (.slice A3 m.length c3)
    refine bodyPost_ret (v := .tuple #[.agg #[.int .i64 u, .int .i64 n, .slice A3 m.length c3], .int .i64 z, .bool true]) (by simp [results, Try.results147, go_sem, d0, d1, d2]) rfl ⟨hT.below H3.out (Nat.le_refl _), Or.inr ⟨z, hz, by rw [HS.out], A3, c3, by rw [HS.out], ?_⟩⟩
    rw [HS.out]
    exact (HT3.out.turns hT hs2).low (by omega)
end Go.Proofs.Ytcokhgomibimcaa
