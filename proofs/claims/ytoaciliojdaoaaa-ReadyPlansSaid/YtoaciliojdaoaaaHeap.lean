/- Blocks that are known whole, worlds of which one block alone has turned, and rows that are given by a function. No condition. -/
import Derived.Test.YtoaciliojdaoaaaKit3
namespace Go.Proofs.Ytoaciliojdaoaaa
open Go.RowKit

/-- Block g is just the cells cs, of element type t. -/
def Blok (w : World) (g : Nat) (t : TypeId) (cs : Array Value) : Prop := w.heap[g]? = some (.cells cs t (0, 0))
/-- From w to w' no block but g has turned, of those that were there; new ones may be there. -/
structure Turns (w w' : World) (g : Nat) : Prop where
  os : w'.os = w.os
  tape : w'.tape = w.tape
  output : w'.output = w.output
  size : w.heap.size ≤ w'.heap.size
  block : ∀ k, k < w.heap.size → k ≠ g → w'.heap[k]? = w.heap[k]?

section
variable {w w' w'' : World} {g : Nat} {t : TypeId} {cs : Array Value}
theorem Blok.lt (h : Blok w g t cs) : g < w.heap.size := by
  rcases Nat.lt_or_ge g w.heap.size with hlt | hge
  · exact hlt
  · unfold Blok at h
    rw [Array.getElem?_eq_none hge] at h
    cases h
theorem Blok.cell (h : Blok w g t cs) (i : Nat) : w.cell? ⟨g, i, none⟩ = cs[i]? := by
  unfold Blok at h
  unfold World.cell?
  simp [h]
theorem Blok.thaw (h : Blok w g t cs) (i : Nat) : w.frozen? ⟨g, i, none⟩ = false := by
  unfold Blok at h
  simp [World.frozen?, h]
theorem Blok.new (w : World) (t : TypeId) (cs : Array Value) (g : Nat) (hg : g = w.heap.size) : Blok (w.alloc (.cells cs t)) g t cs := by
  subst hg
  exact heap_alloc_new w _
theorem Blok.more (h : Blok w g t cs) (x : Xs) : Blok (more w x) g t cs := (more_block w x g h.lt).trans h
theorem Blok.grew (h : Blok w g t cs) (k : Grew w w') : Blok w' g t cs := by
  obtain ⟨x, rfl⟩ := k
  exact h.more x
theorem Blok.alloc (h : Blok w g t cs) (o : Obj) : Blok (w.alloc o) g t cs := by
  rw [more_alloc]
  exact h.more _
theorem Blok.set (h : Blok w g t cs) (i : Nat) (u : Value) : Blok (w.setCell ⟨g, i, none⟩ u) g t (cs.setIfInBounds i u) := by
  unfold Blok at h ⊢
  simp [World.setCell, Array.getElem?_modify, h]
theorem Blok.far (h : Blok w g t cs) {p : Addr} (hp : g ≠ p.block) (u : Value) : Blok (w.setCell p u) g t cs := by
  unfold Blok at h ⊢
  rw [← h]
  simp only [World.setCell, Array.getElem?_modify]
  rw [if_neg (fun e => hp e.symm)]
theorem Blok.turns (h : Blok w g t cs) {k : Nat} (hk : Turns w w' k) (hg : g ≠ k) : Blok w' g t cs := (hk.block g h.lt hg).trans h

theorem Turns.refl (w : World) (g : Nat) : Turns w w g := ⟨rfl, rfl, rfl, Nat.le_refl _, fun _ _ _ => rfl⟩
theorem Turns.trans (h : Turns w w' g) (k : Turns w' w'' g) : Turns w w'' g :=
  ⟨k.os.trans h.os, k.tape.trans h.tape, k.output.trans h.output, Nat.le_trans h.size k.size, fun i hi hn => (k.block i (Nat.lt_of_lt_of_le hi h.size) hn).trans (h.block i hi hn)⟩
theorem Turns.more (h : Turns w w' g) (x : Xs) : Turns w (Go.Proofs.Ytoaciliojdaoaaa.more w' x) g :=
  ⟨h.os, h.tape, h.output, by rw [more_size]; have := h.size; omega, fun i hi hn => (more_block w' x i (Nat.lt_of_lt_of_le hi h.size)).trans (h.block i hi hn)⟩
theorem Turns.grew (h : Turns w w' g) (k : Grew w' w'') : Turns w w'' g := by
  obtain ⟨x, rfl⟩ := k
  exact h.more x
theorem Turns.set (h : Turns w w' g) (i : Nat) (u : Value) : Turns w (w'.setCell ⟨g, i, none⟩ u) g := by
  refine ⟨h.os, h.tape, h.output, by simpa [World.setCell] using h.size, fun k hk hn => ?_⟩
  rw [← h.block k hk hn]
  simp only [World.setCell, Array.getElem?_modify]
  rw [if_neg (fun e => hn e.symm)]
/-- If the block that has turned is above all that was there at first, nothing of the first world has turned. -/
theorem Turns.below {u : World} (h : Turns w w' g) (k : Grew u w) (hg : u.heap.size ≤ g) : Grew u w' := by
  refine Grew.of_below ⟨h.os.trans k.below.os, h.tape.trans k.below.tape, h.output.trans k.below.output, Nat.le_trans k.size h.size, fun i hi => ?_⟩
  rw [h.block i (Nat.lt_of_lt_of_le hi k.size) (by omega)]
  exact k.below.block i hi
theorem Row.turns {A : Option Addr} {xs : List Value} (h : Row w A xs) (hk : Turns w w' g) (hn : ∀ a, A = some a → a.block ≠ g) : Row w' A xs := by
  rcases h with h | ⟨b, o, rfl, hb, hc⟩
  · exact Or.inl h
  · refine Or.inr ⟨b, o, rfl, Nat.lt_of_lt_of_le hb hk.size, fun j u hu => ?_⟩
    rw [← hc j u hu]
    exact World.cell?_of_block (hk.block b hb (hn _ rfl))
/-- What was there at first is not the block that has turned. -/
theorem Row.below {u : World} {A : Option Addr} {xs : List Value} (h : Row u A xs) (k : Grew u w') : Row w' A xs := h.grew k
end

/-- The cells of a row of n numbers. -/
def numsV (n : Nat) (f : Nat → Nat) : Array Value := ((List.range n).map fun i => Value.int .i64 (f i)).toArray
theorem numsV_at (n : Nat) (f : Nat → Nat) (i : Nat) (h : i < n) : (numsV n f)[i]? = some (.int .i64 (f i)) := by
  unfold numsV
  simp [h]
theorem numsV_set (n : Nat) (f : Nat → Nat) (a v : Nat) : (numsV n f).setIfInBounds a (.int .i64 v) = numsV n (fun i => if i = a then v else f i) := by
  unfold numsV
  apply Array.ext_getElem?
  intro i
  rw [Array.getElem?_setIfInBounds]
  by_cases h : i < n
  · by_cases e : a = i
    · subst e; simp [h]
    · rw [if_neg e]; simp [h]; rw [if_neg (fun x => e x.symm)]
  · by_cases e : a = i
    · subst e; simp [h]
    · rw [if_neg e]; simp [h]
end Go.Proofs.Ytoaciliojdaoaaa
