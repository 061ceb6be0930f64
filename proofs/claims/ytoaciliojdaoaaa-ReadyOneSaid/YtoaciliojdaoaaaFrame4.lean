/- Slices of structs that come in, for the laws' frames. No condition. -/
import Derived.Test.YtoaciliojdaoaaaFrame3
namespace Go.Proofs.Ytoaciliojdaoaaa
open Go.RowKit Go.ChangeShapes Go.WideShapes Go.ChangeAt

/-- The address A leads to the cells of each of css, each of so many cells, in memory that is there; nothing is asked of A if there are none. -/
def Grid (w : World) (A : Option Addr) (size : Nat) (css : List (List Value)) : Prop :=
  css = [] ∨ ∃ b o, A = some ⟨b, o, none⟩ ∧ b < w.heap.size ∧ ∀ (i : Nat) (cs : List Value), css[i]? = some cs → ∀ (j : Nat) (u : Value), cs[j]? = some u → w.cell? ⟨b, o + (i * size + j), none⟩ = some u
theorem Grid.more {w : World} {A : Option Addr} {size : Nat} {css : List (List Value)} (h : Grid w A size css) (x : Xs) : Grid (more w x) A size css := by
  rcases h with h | ⟨b, o, hA, hb, hc⟩
  · exact Or.inl h
  · exact Or.inr ⟨b, o, hA, by rw [more_size]; omega, fun i cs hi j u hu => by rw [more_cell _ _ _ hb]; exact hc i cs hi j u hu⟩
theorem Grid.grew {w w' : World} {A : Option Addr} {size : Nat} {css : List (List Value)} (h : Grid w A size css) (hg : Grew w w') : Grid w' A size css := by
  obtain ⟨x, rfl⟩ := hg
  exact h.more x
theorem Grid.at_ {w : World} {A : Option Addr} {size : Nat} {css : List (List Value)} {k : Nat} (h : Grid w A size css) (hk : k < css.length) :
    ∃ b o, A = some ⟨b, o, none⟩ ∧ b < w.heap.size ∧ ∀ j u, css[k][j]? = some u → w.cell? ⟨b, o + (k * size + j), none⟩ = some u := by
  rcases h with h | ⟨b, o, hA, hb, hc⟩
  · subst h; simp at hk
  · exact ⟨b, o, hA, hb, fun j u hu => hc k _ (List.getElem?_eq_getElem hk) j u hu⟩

section
variable {H : Type} {enc : TypeId × Value → H} {P : Program}
/-- A slice of elements of whatever type: a list of what a reading of an element tells, and their cells. -/
theorem open_grid {α : Type} [Inhabited α] (R : α → List Value → Prop) {W : World} {t e : TypeId} {n : Nat} {cs : List Value} {y : DataW H × List MemPlace} (ht : P.underlying t = some (.slice e)) (hs : 0 < P.cellsOf e)
    (hone : ∀ (n : Nat) (cs : List Value) (y : DataW H × List MemPlace), cs.length = P.cellsOf e → DataW.trod enc P W 0 (fun _ => true) true n e cs = some y → ∃ x, R x cs)
    (h : DataW.trod enc P W 0 (fun _ => true) true n t cs = some y) :
    ∃ (A : Option Addr) (c : Nat) (l : List α) (css : List (List Value)), cs = [.slice A l.length c] ∧ l.length ≤ maxLen ∧ css.length = l.length ∧ (∀ (i : Nat) (x : α) (ds : List Value), l[i]? = some x → css[i]? = some ds → R x ds ∧ ds.length = P.cellsOf e) ∧ Grid W A (P.cellsOf e) css := by
  rcases Go.Deep.open_slice ht h with ⟨hcs, _⟩ | ⟨a, len, cap, m, k, D, Pl, hcs, _, hl, hm, hmm, _, hx⟩
  · exact ⟨none, 0, [], [], hcs, by unfold maxLen; simp, rfl, fun i x ds hi => by simp at hi, Or.inl rfl⟩
  · simp only [if_true] at hmm
    subst hmm
    obtain ⟨C, hC⟩ := Go.Deep.choose_lt (α := List Value) (p := fun i ds => W.cells? 0 (a.add (i * P.cellsOf e)) (P.cellsOf e) = some ds ∧ ∃ y, DataW.trod enc P W 0 (fun _ => true) true k e ds = some y) (fun i hi => by
      obtain ⟨ds, h1, h2⟩ := hx i hi
      exact ⟨ds, h1, _, h2⟩)
    have hlenC : ∀ i, i < m → (C i).length = P.cellsOf e := fun i hi => (World.cells?_some (hC i hi).1).2.1
    obtain ⟨X, hX⟩ := Go.Deep.choose_lt (α := α) (p := fun i x => R x (C i)) (fun i hi => by
      obtain ⟨y, hy⟩ := (hC i hi).2
      exact hone _ _ _ (hlenC i hi) hy)
    refine ⟨some a, m, (List.range len).map X, (List.range len).map C, by simpa using hcs, by simp; omega, by simp, fun i x ds hi hd => ?_, ?_⟩
    · have hlt : i < len := by
        rcases Nat.lt_or_ge i len with h | h
        · exact h
        · rw [List.getElem?_eq_none (by simpa using h)] at hi; cases hi
      simp [hlt] at hi hd
      subst hi hd
      exact ⟨hX i (by omega), hlenC i (by omega)⟩
    · by_cases h0 : len = 0
      · subst h0
        exact Or.inl (by simp)
      · have hcell : ∀ i, i < len → ∀ j u, (C i)[j]? = some u → W.cell? (a.add (i * P.cellsOf e + j)) = some u := by
          intro i hi j u hu
          obtain ⟨_, h2, h3⟩ := World.cells?_some (hC i (by omega)).1
          have hj : j < P.cellsOf e := by
            rcases Nat.lt_or_ge j (P.cellsOf e) with h | h
            · exact h
            · rw [List.getElem?_eq_none (by omega)] at hu; cases hu
          have := h3 j hj
          rw [Go.Deep.add_add] at this
          rw [this, hu]
        obtain ⟨b, off, path⟩ := a
        have hu0 : ∃ u, (C 0)[0]? = some u := ⟨_, List.getElem?_eq_getElem (by rw [hlenC 0 (by omega)]; exact hs)⟩
        obtain ⟨u0, hu0⟩ := hu0
        have h1 := hcell 0 (by omega) 0 u0 hu0
        have hp : path = none := by simpa [Addr.add] using World.cell?_spot h1
        subst hp
        refine Or.inr ⟨b, off, rfl, ?_, fun i ds hi j u hu => ?_⟩
        · have := cell_lt h1
          simpa [Addr.add] using this
        · have hlt : i < len := by
            rcases Nat.lt_or_ge i len with h | h
            · exact h
            · rw [List.getElem?_eq_none (by simpa using h)] at hi; cases hi
          simp [hlt] at hi
          subst hi
          have := hcell i hlt j u hu
          rw [add_plain] at this
          exact this
end
end Go.Proofs.Ytoaciliojdaoaaa
