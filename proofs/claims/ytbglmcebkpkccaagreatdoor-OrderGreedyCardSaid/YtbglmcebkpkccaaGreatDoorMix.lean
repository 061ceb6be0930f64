/- Rows that lie in memory that was there at first, or in new blocks of their type. No condition. -/
import Derived.Test.YtbglmcebkpkccaaGreatDoorRel
namespace Go.Proofs.YtbglmcebkpkccaaGreatDoor
open Go.RowKit

/-- A row of the first world u, or one in a block of its type, from u's end on. -/
def MRow (u w : World) : Rw := fun e A xs => Row u A xs ∨ TRow u.heap.size w e A xs
section
variable {u w w' : World} {e e' : TypeId} {A : Option Addr} {xs : List Value}
theorem MRow.old (h : Row u A xs) : MRow u w e A xs := Or.inl h
theorem MRow.nil : MRow u w e A [] := Or.inl (Or.inl rfl)
theorem MRow.own {size n c : Nat} (h : w.ownsRow u.heap.size e size (.slice A n c) n xs) : MRow u w e A xs := Or.inr (TRow.own h)
theorem MRow.plain (h : MRow u w e A xs) (g : Grew u w) : Row w A xs := by
  rcases h with h | h
  · exact h.grew g
  · exact h.plain
theorem MRow.prow (g : Grew u w) : ∀ e A xs, MRow u w e A xs → PRow w e A xs := fun _ _ _ h => h.plain g
theorem MRow.grew (h : MRow u w e A xs) (g : Grew w w') : MRow u w' e A xs := h.imp id fun h => h.grew g
theorem MRow.turns {g : Nat} (h : MRow u w e A xs) (k : Turns w w' g) {cs : Array Value} (hb : Blok w g e' cs) (hne : e ≠ e') : MRow u w' e A xs := h.imp id fun h => h.apart k hb hne
theorem MRow.grown {base size n : Nat} {v : Value} {ys : List Value} (h : MRow u w e A xs) (ho : w.ownsRow base e' size v n ys) (hne : e ≠ e') (k : w.grownBy w' v.ownBlock) : MRow u w' e A xs :=
  h.imp id fun h => h.grown ho hne k
/-- A row of one's own in an earlier world, seen from the first one. -/
theorem MRow.low {u' : World} (h : MRow u' w e A xs) (g : Grew u u') (hu : ∀ A xs, Row u' A xs → MRow u w e A xs) : MRow u w e A xs := by
  rcases h with h | h
  · exact hu _ _ h
  · exact Or.inr (h.low g.size)
end
/-- A row of one's own, as a block. -/
theorem own_blok {w : World} {base n : Nat} {e : TypeId} {size : Nat} {v : Value} {xs : List Value} (h : w.ownsRow base e size v n xs) (hx : xs ≠ []) :
    ∃ g cap cur, v = .slice (some ⟨g, 0, none⟩) n cap ∧ base ≤ g ∧ n ≤ cap ∧ Blok w g e cur ∧ ∀ (j : Nat) (y : Value), xs[j]? = some y → cur[j]? = some y := by
  rcases h.2 with ⟨h1, h2⟩ | ⟨g, cap, cur, h1, h2, h3, h4, h5, h6, h7⟩
  · exact absurd (List.eq_nil_of_length_eq_zero (by rw [h.1, h2, Nat.zero_mul])) hx
  · refine ⟨g, cap, cur, h1, h2, h4, h3, fun j y hy => ?_⟩
    rw [← h7] at hy
    have hj : j < n * size := by
      rcases Nat.lt_or_ge j (n * size) with h | h
      · exact h
      · rw [List.getElem?_eq_none (by rw [List.length_take]; omega)] at hy; cases hy
    rw [List.getElem?_take_of_lt hj] at hy
    simpa using hy
theorem own_cap' {w : World} {base n c : Nat} {e : TypeId} {size : Nat} {A : Option Addr} {xs : List Value} (h : w.ownsRow base e size (.slice A n c) n xs) : n ≤ c := by
  rcases h.2 with ⟨h1, h2⟩ | ⟨g, cap, cur, h1, h2, h3, h4, h5⟩
  · omega
  · injection h1 with _ _ h1
    omega
/-- One cell of a row is set. -/
theorem row_set {w : World} {g o i : Nat} {xs : List Value} {t : TypeId} {cs : Array Value} (h : Row w (some ⟨g, o, none⟩) xs) (hb : Blok w g t cs) (hi : i < xs.length) (v : Value) : Row (w.setCell ⟨g, o + i, none⟩ v) (some ⟨g, o, none⟩) (xs.set i v) := by
  rcases h with h | ⟨b', o', hA, hlt, hc⟩
  · subst h; simp at hi
  · injection hA with hA
    injection hA with e1 e2 _
    subst e1 e2
    have hb2 := hb.set (o + i) v
    refine Or.inr ⟨g, o, rfl, by simpa [World.setCell] using hlt, fun j u hu => ?_⟩
    rw [hb2.cell]
    rw [List.getElem?_set] at hu
    have hci := hc i _ (List.getElem?_eq_getElem hi)
    rw [hb.cell] at hci
    have hsz : o + i < cs.size := by
      rcases Nat.lt_or_ge (o + i) cs.size with h | h
      · exact h
      · rw [Array.getElem?_eq_none h] at hci; cases hci
    by_cases hij : i = j
    · subst hij
      simp [hi] at hu
      subst hu
      rw [Array.getElem?_setIfInBounds_self_of_lt hsz]
    · rw [if_neg hij] at hu
      rw [Array.getElem?_setIfInBounds_ne (by omega), ← hb.cell]
      exact hc j u hu
end Go.Proofs.YtbglmcebkpkccaaGreatDoor
