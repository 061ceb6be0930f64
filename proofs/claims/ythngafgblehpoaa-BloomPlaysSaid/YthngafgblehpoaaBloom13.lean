/- Layer 18: the law of any numbers. No condition. -/
import Derived.Test.YthngafgblehpoaaBloom12
import Derived.Test.YthngafgblehpoaaLawBloom
import Derived.Test.YthngafgblehpoaaTail
namespace Go.Proofs.Ythngafgblehpoaa
open Go.RowKit
attribute [local go_sem] more_cell more_frozen more_more more_setCell more_of_drew more_of_drewN lt_more le_more past_cell past_cell2 past_frozen past_frozen2 past_setCell past_setCell2 mid_cell mid_frozen mid_setCell
attribute [local go_sem ↓] Go.wp_at_zero Go.wp_at_succ

theorem urow_ne {w : World} {g b : Nat} {t : TypeId} {A : Option Addr} {n c : Nat} {v : Value} {ws : List Nat} (h : URow w (some ⟨g, 0, none⟩) ws) (h0 : 0 < ws.length) (hb : Blok w b t #[.slice A n c, v]) : g ≠ b := by
  intro e
  subst e
  have h1 := (urow_cell h h0 rfl).2
  have h2 := hb.cell 0
  rw [h1] at h2
  simp at h2
theorem brow_ne {w : World} {g b : Nat} {t : TypeId} {A : Option Addr} {n c : Nat} {v : Value} {l : List Bool} (h : BRow w (some ⟨g, 0, none⟩) l) (h0 : 0 < l.length) (hb : Blok w b t #[.slice A n c, v]) : g ≠ b := by
  intro e
  subst e
  have h1 := (brow_cell h (List.getElem?_eq_getElem h0)).2
  have h2 := hb.cell 0
  rw [h1] at h2
  simp at h2
/-- The program's filter and the document's, side by side. -/
structure Duo (w wr : World) (T U : TypeId) (g9 g10 n k : Nat) (ws : List Nat) : Prop where
  grew : Grew w wr
  ge9 : w.heap.size ≤ g9
  ge10 : w.heap.size ≤ g10
  ne : g9 ≠ g10
  len : ws.length = n
  one : ∃ g c, Blok wr g9 T #[.slice (some ⟨g, 0, none⟩) n c, .int .i64 k] ∧ URow wr (some ⟨g, 0, none⟩) ws
  two : ∃ g c, Blok wr g10 U #[.slice (some ⟨g, 0, none⟩) (64 * n) c, .int .i64 k] ∧ BRow wr (some ⟨g, 0, none⟩) (B18.bitL ws)
theorem Duo.on {w wr w' : World} {T U : TypeId} {g9 g10 n k : Nat} {ws : List Nat} (h : Duo w wr T U g9 g10 n k ws) (g : Grew wr w') : Duo w w' T U g9 g10 n k ws := by
  obtain ⟨a, c, h1, h2⟩ := h.one
  obtain ⟨a', c', h3, h4⟩ := h.two
  exact ⟨h.grew.trans g, h.ge9, h.ge10, h.ne, h.len, ⟨a, c, h1.grew g, h2.grew g⟩, ⟨a', c', h3.grew g, h4.grew g⟩⟩
theorem blok_set2 {w : World} {c : Nat} {t : TypeId} {a b : Value} (h : Blok w c t #[a, b]) (x y : Value) : Blok ((w.setCell ⟨c, 0, none⟩ x).setCell ⟨c, 1, none⟩ y) c t #[x, y] := by
  have := (h.set 0 x).set 1 y
  simpa using this
/-- Both are stored anew, in either order. -/
theorem Duo.store {w wr : World} {T U : TypeId} {g9 g10 n k : Nat} {ws vs : List Nat} (h : Duo w wr T U g9 g10 n k ws) (hl : vs.length = n) (h0 : 0 < n) {g c g' c' : Nat} (hu : URow wr (some ⟨g, 0, none⟩) vs) (hb : BRow wr (some ⟨g', 0, none⟩) (B18.bitL vs)) :
    Duo w ((((wr.setCell ⟨g9, 0, none⟩ (.slice (some ⟨g, 0, none⟩) n c)).setCell ⟨g9, 1, none⟩ (.int .i64 k)).setCell ⟨g10, 0, none⟩ (.slice (some ⟨g', 0, none⟩) (64 * n) c')).setCell ⟨g10, 1, none⟩ (.int .i64 k)) T U g9 g10 n k vs ∧
    Duo w ((((wr.setCell ⟨g10, 0, none⟩ (.slice (some ⟨g', 0, none⟩) (64 * n) c')).setCell ⟨g10, 1, none⟩ (.int .i64 k)).setCell ⟨g9, 0, none⟩ (.slice (some ⟨g, 0, none⟩) n c)).setCell ⟨g9, 1, none⟩ (.int .i64 k)) T U g9 g10 n k vs := by
  obtain ⟨a, d, h1, h2⟩ := h.one
  obtain ⟨a', d', h3, h4⟩ := h.two
  have hbl : 0 < (B18.bitL vs).length := by rw [B18.bitL_len]; omega
  have n9 : g ≠ g9 := urow_ne hu (by omega) h1
  have n10 : g ≠ g10 := urow_ne hu (by omega) h3
  have m9 : g' ≠ g9 := brow_ne hb hbl h1
  have m10 : g' ≠ g10 := brow_ne hb hbl h3
  have r : ∀ (W : World) (A : Option Addr) (xs : List Value) (q i : Nat) (v : Value), Row W A xs → (∀ p, A = some p → p.block ≠ q) → Row (W.setCell ⟨q, i, none⟩ v) A xs := fun W A xs q i v hr hn => row_far hr hn v
  have nu : ∀ q, g ≠ q → ∀ p, (some (Addr.mk g 0 none)) = some p → p.block ≠ q := fun q hq p hp => by injection hp with hp; subst hp; exact hq
  have mu : ∀ q, g' ≠ q → ∀ p, (some (Addr.mk g' 0 none)) = some p → p.block ≠ q := fun q hq p hp => by injection hp with hp; subst hp; exact hq
  constructor
  · refine ⟨(((h.grew.setCell (a := ⟨g9, 0, none⟩) h.ge9 _).setCell (a := ⟨g9, 1, none⟩) h.ge9 _).setCell (a := ⟨g10, 0, none⟩) h.ge10 _).setCell (a := ⟨g10, 1, none⟩) h.ge10 _, h.ge9, h.ge10, h.ne, hl, ⟨g, c, ?_, ?_⟩, ⟨g', c', ?_, ?_⟩⟩
    · exact ((blok_set2 h1 _ _).far (p := ⟨g10, 0, none⟩) h.ne _).far (p := ⟨g10, 1, none⟩) h.ne _
    · exact r _ _ _ _ _ _ (r _ _ _ _ _ _ (r _ _ _ _ _ _ (r _ _ _ _ _ _ hu (nu _ n9)) (nu _ n9)) (nu _ n10)) (nu _ n10)
    · exact blok_set2 ((h3.far (p := ⟨g9, 0, none⟩) h.ne.symm _).far (p := ⟨g9, 1, none⟩) h.ne.symm _) _ _
    · exact r _ _ _ _ _ _ (r _ _ _ _ _ _ (r _ _ _ _ _ _ (r _ _ _ _ _ _ hb (mu _ m9)) (mu _ m9)) (mu _ m10)) (mu _ m10)
  · refine ⟨(((h.grew.setCell (a := ⟨g10, 0, none⟩) h.ge10 _).setCell (a := ⟨g10, 1, none⟩) h.ge10 _).setCell (a := ⟨g9, 0, none⟩) h.ge9 _).setCell (a := ⟨g9, 1, none⟩) h.ge9 _, h.ge9, h.ge10, h.ne, hl, ⟨g, c, ?_, ?_⟩, ⟨g', c', ?_, ?_⟩⟩
    · exact blok_set2 ((h1.far (p := ⟨g10, 0, none⟩) h.ne _).far (p := ⟨g10, 1, none⟩) h.ne _) _ _
    · exact r _ _ _ _ _ _ (r _ _ _ _ _ _ (r _ _ _ _ _ _ (r _ _ _ _ _ _ hu (nu _ n10)) (nu _ n10)) (nu _ n9)) (nu _ n9)
    · exact ((blok_set2 h3 _ _).far (p := ⟨g9, 0, none⟩) h.ne.symm _).far (p := ⟨g9, 1, none⟩) h.ne.symm _
    · exact r _ _ _ _ _ _ (r _ _ _ _ _ _ (r _ _ _ _ _ _ (r _ _ _ _ _ _ hb (mu _ m10)) (mu _ m10)) (mu _ m9)) (mu _ m9)
def DuoAt (w : World) (T U : TypeId) (g9 g10 n k : Nat) (l : List Nat) (i : Value) (wr : World) : Prop := ∃ j : Nat, j ≤ l.length ∧ i = .int .i64 j ∧ Duo w wr T U g9 g10 n k (addW (List.replicate n 0) k (l.take j))
end Go.Proofs.Ythngafgblehpoaa
