/- Helpers for the walks of this seat: worlds that have grown above what was there, a region that draws its order over such worlds, small words. No condition. -/
import Derived.WalkKit
import Derived.WalkSpells
import Derived.WalkLawsBesides
import Derived.BigQuiet
import Derived.Below
import Derived.ProofKit
namespace Go.Proofs.Ythmaablodgcgkaa
open Go.RowKit

/-- More blocks, and a count of draws. -/
structure Xs where
  blocks : Array Obj
  drawn : Nat
instance xs_some : Nonempty Xs := ⟨⟨#[], 0⟩⟩
def Xs.join (x y : Xs) : Xs := ⟨x.blocks ++ y.blocks, y.drawn⟩
/-- The world w, with more blocks behind its own, and another count of draws. -/
def more (w : World) (x : Xs) : World := { w with heap := w.heap ++ x.blocks, drawn := x.drawn }

theorem more_size (w : World) (x : Xs) : (more w x).heap.size = w.heap.size + x.blocks.size := by
  simp [more]
theorem more_block (w : World) (x : Xs) (k : Nat) (h : k < w.heap.size) : (more w x).heap[k]? = w.heap[k]? := by
  simp only [more]
  rw [Array.getElem?_append_left h]
theorem more_cell (w : World) (x : Xs) (a : Addr) (h : a.block < w.heap.size) : (more w x).cell? a = w.cell? a := by
  unfold World.cell?
  rw [more_block w x _ h]
theorem more_frozen (w : World) (x : Xs) (a : Addr) (h : a.block < w.heap.size) : (more w x).frozen? a = w.frozen? a := by
  unfold World.frozen?
  rw [more_block w x _ h]
theorem more_more (w : World) (x y : Xs) : more (more w x) y = more w (x.join y) := by
  simp [more, Xs.join, Array.append_assoc]
theorem more_drew (w : World) (x : Xs) : (more w x).drew = more w ⟨x.blocks, x.drawn + 1⟩ := rfl
theorem more_self (w : World) : more w ⟨#[], w.drawn⟩ = w := by
  simp [more]
theorem more_drawn (w : World) (n : Nat) : ({ w with drawn := n } : World) = more w ⟨#[], n⟩ := by
  simp [more]
theorem more_alloc (w : World) (o : Obj) : w.alloc o = more w ⟨#[o], w.drawn⟩ := by
  show ({ w with heap := w.heap.push o } : World) = { w with heap := w.heap ++ #[o], drawn := w.drawn }
  rw [Array.push_eq_append]
theorem below_more (w : World) (x : Xs) : Below w.heap.size w (more w x) :=
  ⟨rfl, rfl, rfl, by rw [more_size]; omega, fun k hk => more_block w x k hk⟩
theorem more_of_below {w w' : World} (h : Below w.heap.size w w') : ∃ x, w' = more w x := by
  refine ⟨⟨w'.heap.extract w.heap.size w'.heap.size, w'.drawn⟩, ?_⟩
  have hh : w'.heap = w.heap ++ w'.heap.extract w.heap.size w'.heap.size := by
    apply Array.ext_getElem?
    intro i
    by_cases hi : i < w.heap.size
    · rw [Array.getElem?_append_left hi, h.block i hi]
    · have hs := h.size
      rw [Array.getElem?_append_right (by omega), Array.getElem?_extract]
      by_cases hj : i < w'.heap.size
      · rw [if_pos (by omega)]
        congr 1
        omega
      · rw [if_neg (by omega), Array.getElem?_eq_none (by omega)]
  obtain ⟨h1, h2, h3, h4, h5⟩ := w'
  simp only at hh
  unfold more
  have e1 := h.os
  have e2 := h.tape
  have e3 := h.output
  simp only at e1 e2 e3
  subst e1 e2 e3
  simp only [← hh]

/-- What is built on a world that has grown has grown from the first one. -/
def Grew (w w' : World) : Prop := ∃ x, w' = more w x
theorem Grew.refl (w : World) : Grew w w := ⟨_, (more_self w).symm⟩
theorem Grew.more {w w' : World} (h : Grew w w') (x : Xs) : Grew w (more w' x) := by
  obtain ⟨y, rfl⟩ := h
  exact ⟨_, more_more _ _ _⟩
theorem Grew.trans {a b c : World} (h : Grew a b) (k : Grew b c) : Grew a c := by
  obtain ⟨y, rfl⟩ := k
  exact h.more y
theorem Grew.alloc {w w' : World} (h : Grew w w') (o : Obj) : Grew w (w'.alloc o) := by
  rw [more_alloc]
  exact h.more _
theorem Grew.drew {w w' : World} (h : Grew w w') : Grew w w'.drew := by
  obtain ⟨y, rfl⟩ := h
  exact ⟨_, more_drew _ _⟩
theorem Grew.drewN {w w' : World} (h : Grew w w') (n : Nat) : Grew w (w'.drewN n) := by
  obtain ⟨y, rfl⟩ := h
  exact ⟨⟨y.blocks, y.drawn + n⟩, rfl⟩
theorem Grew.below {w w' : World} (h : Grew w w') : Below w.heap.size w w' := by
  obtain ⟨y, rfl⟩ := h
  exact below_more _ _
theorem Grew.of_below {w w' : World} (h : Below w.heap.size w w') : Grew w w' := more_of_below h
theorem Grew.size {w w' : World} (h : Grew w w') : w.heap.size ≤ w'.heap.size := h.below.size
theorem Grew.setCell {w w' : World} (h : Grew w w') {a : Addr} (ha : w.heap.size ≤ a.block) (v : Value) : Grew w (w'.setCell a v) :=
  Grew.of_below (h.below.setCell ha v)

/-- The call returns v, and the world has grown: whatever the world is. -/
def Gives (P : Program) (f : FuncId) (args : Array Value) (w : World) (v : Value) : Prop :=
  Calls P f args w fun e w' => e = .returned v ∧ ∃ x, w' = Go.Proofs.Ythmaablodgcgkaa.more w x

theorem Gives.of_same {P : Program} {f : FuncId} {args : Array Value} {w : World} {v : Value} (h : Calls P f args w fun e w' => e = .returned v ∧ w' = w) : Gives P f args w v :=
  h.mono fun _ _ ⟨he, hw⟩ => ⟨he, _, hw.trans (more_self w).symm⟩
theorem Gives.of_grew {P : Program} {f : FuncId} {args : Array Value} {w : World} {v : Value} (h : Calls P f args w fun e w' => e = .returned v ∧ Grew w w') : Gives P f args w v := h
/-- Inside a region over worlds that have grown from w. -/
theorem Gives.within {P : Program} {f : FuncId} {args : Array Value} {w : World} {x : Xs} {v : Value} (h : Gives P f args (more w x) v) :
    Calls P f args (more w x) fun e w' => e = .returned v ∧ ∃ y, w' = more w y :=
  h.mono fun _ _ ⟨he, y, hy⟩ => ⟨he, _, hy.trans (more_more w x y)⟩

theorem Xs.join_join (x y z : Xs) : (x.join y).join z = x.join (y.join z) := by
  simp [Xs.join, Array.append_assoc]
theorem Gives.inside {P : Program} {f : FuncId} {args : Array Value} {w : World} {z x : Xs} {v : Value} (h : Gives P f args (more w (z.join x)) v) :
    Calls P f args (more w (z.join x)) fun e w' => e = .returned v ∧ ∃ y, w' = more w (z.join y) :=
  h.mono fun _ _ ⟨he, y, hy⟩ => ⟨he, x.join y, by rw [hy, more_more, Xs.join_join]⟩

/-- A region that draws its order, walked once, over all worlds that have grown from w. -/
theorem wp_region_more {P : Program} {id : Nat} {Q : Exit → Act → World → Prop} {a : Act} {w : World} {l : List Oper} (hm : P.follows .mixedOrders = true) (hB : Region.lexB .any l.toArray = true)
    (h : wpQuiet P l.toArray (fun w' => ∃ x, w' = more w x) (fun a' => ∀ w', (∃ x, w' = more w x) → Q .normal a' w') l a) : (Code.region id l.toArray true).wp P Q a w :=
  wp_region_quiet (C := fun w' => ∃ x, w' = more w x) hm hB ⟨_, more_drawn w _⟩ (by simpa using h)

theorem ret_int {a b : Int} (h : a = b) : Ending.returned (.int .i64 a) = .returned (.int .i64 b) := by rw [h]
theorem ret_bool {a b : Bool} (h : a = b) : Ending.returned (.bool a) = .returned (.bool b) := by rw [h]
theorem ret_ib {a b : Int} {x y : Bool} (h : a = b) (k : x = y) : Ending.returned (.tuple #[.int .i64 a, .bool x]) = .returned (.tuple #[.int .i64 b, .bool y]) := by rw [h, k]

end Go.Proofs.Ythmaablodgcgkaa
