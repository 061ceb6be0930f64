/- Layer 6: two classes put together, told apart, made, counted. No condition but that the classes lie in memory as they are made. -/
import Derived.Test.YtbglmcebkpkccaaGreatDoorUf
namespace Go.Proofs.YtbglmcebkpkccaaGreatDoor
open Go.RowKit
attribute [local go_sem] more_cell more_frozen more_more more_setCell more_of_drew more_of_drewN lt_more le_more past_cell past_cell2 past_frozen past_frozen2 past_setCell past_setCell2 mid_cell mid_frozen mid_setCell
attribute [local go_sem ↓] Go.wp_at_zero Go.wp_at_succ

/-- From w to w' no block but g and h has turned, of those that were there. -/
structure Keep2 (w w' : World) (g h : Nat) : Prop where
  os : w'.os = w.os
  tape : w'.tape = w.tape
  output : w'.output = w.output
  size : w.heap.size ≤ w'.heap.size
  block : ∀ k, k < w.heap.size → k ≠ g → k ≠ h → w'.heap[k]? = w.heap[k]?
theorem Turns.keep {w w' : World} {h : Nat} (t : Turns w w' h) (g : Nat) : Keep2 w w' g h := ⟨t.os, t.tape, t.output, t.size, fun k hk _ hn => t.block k hk hn⟩
theorem Keep2.refl (w : World) (g h : Nat) : Keep2 w w g h := ⟨rfl, rfl, rfl, Nat.le_refl _, fun _ _ _ _ => rfl⟩
theorem Keep2.trans {w w' w'' : World} {g h : Nat} (a : Keep2 w w' g h) (b : Keep2 w' w'' g h) : Keep2 w w'' g h :=
  ⟨b.os.trans a.os, b.tape.trans a.tape, b.output.trans a.output, Nat.le_trans a.size b.size, fun k hk n1 n2 => (b.block k (Nat.lt_of_lt_of_le hk a.size) n1 n2).trans (a.block k hk n1 n2)⟩
theorem Keep2.more {w w' : World} {g h : Nat} (a : Keep2 w w' g h) (x : Xs) : Keep2 w (Go.Proofs.YtbglmcebkpkccaaGreatDoor.more w' x) g h :=
  ⟨a.os, a.tape, a.output, by rw [more_size]; have := a.size; omega, fun k hk n1 n2 => (more_block w' x k (Nat.lt_of_lt_of_le hk a.size)).trans (a.block k hk n1 n2)⟩
theorem Keep2.set {w w' : World} {g h : Nat} (a : Keep2 w w' g h) (p : Addr) (hp : p.block = g ∨ p.block = h) (u : Value) : Keep2 w (w'.setCell p u) g h := by
  refine ⟨a.os, a.tape, a.output, by simpa [World.setCell] using a.size, fun k hk n1 n2 => ?_⟩
  rw [← a.block k hk n1 n2]
  simp only [World.setCell, Array.getElem?_modify]
  rw [if_neg (by omega)]
theorem Keep2.grew {u w w' : World} {g h : Nat} (a : Keep2 w w' g h) (k : Grew u w) (hg : u.heap.size ≤ g) (hh : u.heap.size ≤ h) : Grew u w' := by
  refine Grew.of_below ⟨a.os.trans k.below.os, a.tape.trans k.below.tape, a.output.trans k.below.output, Nat.le_trans k.size a.size, fun i hi => ?_⟩
  rw [a.block i (Nat.lt_of_lt_of_le hi k.size) (by omega) (by omega)]
  exact k.below.block i hi
theorem Row.keep {w w' : World} {g h : Nat} {A : Option Addr} {xs : List Value} (r : Row w A xs) (a : Keep2 w w' g h) (hn : ∀ p, A = some p → p.block ≠ g ∧ p.block ≠ h) : Row w' A xs := by
  rcases r with r | ⟨b, o, rfl, hb, hc⟩
  · exact Or.inl r
  · refine Or.inr ⟨b, o, rfl, Nat.lt_of_lt_of_le hb a.size, fun j u hu => ?_⟩
    rw [← hc j u hu]
    exact World.cell?_of_block (a.block b hb (hn _ rfl).1 (hn _ rfl).2)
/-- One class of two, by their least numbers. -/
def joinR (r : Nat → Nat) (i j : Nat) : Nat → Nat := fun k => if r k = max i j then min i j else r k
theorem joinR_same (r : Nat → Nat) (i : Nat) : joinR r i i = r := by
  funext k
  unfold joinR
  rw [Nat.max_self, Nat.min_self]
  split
  · omega
  · rfl
/-- Each number's class is told by its least one. -/
structure Least (n : Nat) (r : Nat → Nat) : Prop where
  le : ∀ i, i < n → r i ≤ i
  idem : ∀ i, i < n → r (r i) = r i
theorem Least.join {n : Nat} {r : Nat → Nat} (h : Least n r) {a b : Nat} (ha : a < n) (hb : b < n) : Least n (joinR r (r a) (r b)) := by
  have h1 := h.idem a ha
  have h2 := h.idem b hb
  have h3 := h.le a ha
  have h4 := h.le b hb
  refine ⟨fun i hi => ?_, fun i hi => ?_⟩
  · unfold joinR
    have := h.le i hi
    split <;> omega
  · have h5 := h.idem i hi
    have h6 := h.le i hi
    unfold joinR
    by_cases e : r i = max (r a) (r b)
    · simp only [if_pos e]
      rcases Nat.le_total (r a) (r b) with h7 | h7
      · rw [Nat.min_eq_left h7, Nat.max_eq_right h7, h1]
        split <;> omega
      · rw [Nat.min_eq_right h7, Nat.max_eq_left h7, h2]
        split <;> omega
    · simp only [if_neg e]
      rw [h5, if_neg e]
theorem Leads.join {n : Nat} {f r : Nat → Nat} (h : Leads n f r) (hr : Least n r) {a b : Nat} (ha : a < n) (hb : b < n) (hne : r a ≠ r b) :
    Leads n (fun i => if i = max (r a) (r b) then min (r a) (r b) else f i) (joinR r (r a) (r b)) := by
  have h1 := hr.idem a ha
  have h2 := hr.idem b hb
  have hmx : r (max (r a) (r b)) = max (r a) (r b) := by
    rcases Nat.le_total (r a) (r b) with h7 | h7
    · rw [Nat.max_eq_right h7, h2]
    · rw [Nat.max_eq_left h7, h1]
  have hmn : r (min (r a) (r b)) = min (r a) (r b) := by
    rcases Nat.le_total (r a) (r b) with h7 | h7
    · rw [Nat.min_eq_left h7, h1]
    · rw [Nat.min_eq_right h7, h2]
  have hlt : min (r a) (r b) < max (r a) (r b) := by omega
  have hj : joinR r (r a) (r b) = fun k => if r k = max (r a) (r b) then min (r a) (r b) else r k := rfl
  rw [hj]
  clear hj
  generalize max (r a) (r b) = mx at *
  generalize min (r a) (r b) = mn at *
  refine ⟨fun i hi => ?_, fun i hi => ?_, fun i hi => ?_⟩
  · by_cases e : i = mx
    · subst e; simp only [if_true]; omega
    · simp only [if_neg e]; exact h.le i hi
  · by_cases e : i = mx
    · subst e
      simp only [if_true]
      rw [hmn, hmx, if_neg (by omega), if_pos rfl]
    · simp only [if_neg e]
      rw [h.same i hi]
  · by_cases e : i = mx
    · subst e
      simp only [if_true]
      intro h0
      omega
    · simp only [if_neg e]
      intro h0
      have := h.root i hi h0
      rw [this, if_neg e]
/-- What Find answers. -/
def findI (n : Nat) (r : Nat → Nat) (a : Int) : Int := if 0 ≤ a ∧ a < n then (r a.toNat : Int) else -1
theorem findI_lo (n : Nat) (r : Nat → Nat) (a : Int) : -1 ≤ findI n r a := by unfold findI; split <;> omega
end Go.Proofs.YtbglmcebkpkccaaGreatDoor
