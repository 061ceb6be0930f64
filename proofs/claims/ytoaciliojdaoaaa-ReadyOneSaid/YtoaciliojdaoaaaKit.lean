/- Helpers for the walks of this seat: worlds that have grown above what was there, a region that draws its order over such worlds, small words. No condition. -/
import Derived.WalkKit
import Derived.WalkSpells
import Derived.WalkLawsBesides
import Derived.BigQuiet
import Derived.StillTail
import Derived.Below
import Derived.ProofKit
namespace Go.Proofs.Ytoaciliojdaoaaa
open Go.RowKit

/-- More blocks, and a count of draws. -/
structure Xs where
  blocks : Array Obj
  drawn : Nat
instance xs_some : Nonempty Xs := ⟨⟨#[], 0⟩⟩
def Xs.join (x y : Xs) : Xs := ⟨x.blocks ++ y.blocks, y.drawn⟩
/-- The world w, with more blocks behind its own, and another count of draws. -/
def more (w : World) (x : Xs) : World := { w with heap := w.heap ++ x.blocks, drawn := x.drawn }

theorem more_size (w : World) (x : Xs) : (more w x).heap.size = w.heap.size + x.blocks.size := by
  simp [more]
theorem more_block (w : World) (x : Xs) (k : Nat) (h : k < w.heap.size) : (more w x).heap[k]? = w.heap[k]? := by
  simp only [more]
  rw [Array.getElem?_append_left h]
theorem more_cell (w : World) (x : Xs) (a : Addr) (h : a.block < w.heap.size) : (more w x).cell? a = w.cell? a := by
  unfold World.cell?
  rw [more_block w x _ h]
theorem more_frozen (w : World) (x : Xs) (a : Addr) (h : a.block < w.heap.size) : (more w x).frozen? a = w.frozen? a := by
  unfold World.frozen?
  rw [more_block w x _ h]
theorem more_more (w : World) (x y : Xs) : more (more w x) y = more w (x.join y) := by
  simp [more, Xs.join, Array.append_assoc]
theorem more_drew (w : World) (x : Xs) : (more w x).drew = more w ⟨x.blocks, x.drawn + 1⟩ := rfl
theorem more_setCell (w : World) (x : Xs) (a : Addr) (v : Value) (h : a.block < w.heap.size) : (more w x).setCell a v = more (w.setCell a v) x := by
  simp only [more, World.setCell]
  congr 1
  apply Array.ext_getElem?
  intro i
  rw [Array.getElem?_modify]
  by_cases hi : i < w.heap.size
  · rw [Array.getElem?_append_left (xs := w.heap) hi, Array.getElem?_append_left (by simpa using hi), Array.getElem?_modify]
  · rw [if_neg (by omega), Array.getElem?_append_right (xs := w.heap) (by omega), Array.getElem?_append_right (by simpa using hi)]
    simp
theorem more_self (w : World) : more w ⟨#[], w.drawn⟩ = w := by
  simp [more]
theorem more_drawn (w : World) (n : Nat) : ({ w with drawn := n } : World) = more w ⟨#[], n⟩ := by
  simp [more]
theorem more_alloc (w : World) (o : Obj) : w.alloc o = more w ⟨#[o], w.drawn⟩ := by
  show ({ w with heap := w.heap.push o } : World) = { w with heap := w.heap ++ #[o], drawn := w.drawn }
  rw [Array.push_eq_append]
theorem below_more (w : World) (x : Xs) : Below w.heap.size w (more w x) :=
  ⟨rfl, rfl, rfl, by rw [more_size]; omega, fun k hk => more_block w x k hk⟩
theorem more_of_below {w w' : World} (h : Below w.heap.size w w') : ∃ x, w' = more w x := by
  refine ⟨⟨w'.heap.extract w.heap.size w'.heap.size, w'.drawn⟩, ?_⟩
  have hh : w'.heap = w.heap ++ w'.heap.extract w.heap.size w'.heap.size := by
    apply Array.ext_getElem?
    intro i
    by_cases hi : i < w.heap.size
    · rw [Array.getElem?_append_left hi, h.block i hi]
    · have hs := h.size
      rw [Array.getElem?_append_right (by omega), Array.getElem?_extract]
      by_cases hj : i < w'.heap.size
      · rw [if_pos (by omega)]
        congr 1
        omega
      · rw [if_neg (by omega), Array.getElem?_eq_none (by omega)]
  obtain ⟨h1, h2, h3, h4, h5⟩ := w'
  simp only at hh
  unfold more
  have e1 := h.os
  have e2 := h.tape
  have e3 := h.output
  simp only at e1 e2 e3
  subst e1 e2 e3
  simp only [← hh]

/-- What is built on a world that has grown has grown from the first one. -/
def Grew (w w' : World) : Prop := ∃ x, w' = more w x
theorem Grew.refl (w : World) : Grew w w := ⟨_, (more_self w).symm⟩
theorem Grew.more {w w' : World} (h : Grew w w') (x : Xs) : Grew w (more w' x) := by
  obtain ⟨y, rfl⟩ := h
  exact ⟨_, more_more _ _ _⟩
theorem Grew.trans {a b c : World} (h : Grew a b) (k : Grew b c) : Grew a c := by
  obtain ⟨y, rfl⟩ := k
  exact h.more y
theorem Grew.alloc {w w' : World} (h : Grew w w') (o : Obj) : Grew w (w'.alloc o) := by
  rw [more_alloc]
  exact h.more _
theorem Grew.drew {w w' : World} (h : Grew w w') : Grew w w'.drew := by
  obtain ⟨y, rfl⟩ := h
  exact ⟨_, more_drew _ _⟩
theorem Grew.drewN {w w' : World} (h : Grew w w') (n : Nat) : Grew w (w'.drewN n) := by
  obtain ⟨y, rfl⟩ := h
  exact ⟨⟨y.blocks, y.drawn + n⟩, rfl⟩
theorem Grew.below {w w' : World} (h : Grew w w') : Below w.heap.size w w' := by
  obtain ⟨y, rfl⟩ := h
  exact below_more _ _
theorem Grew.of_below {w w' : World} (h : Below w.heap.size w w') : Grew w w' := more_of_below h
theorem Grew.size {w w' : World} (h : Grew w w') : w.heap.size ≤ w'.heap.size := h.below.size
theorem Grew.setCell {w w' : World} (h : Grew w w') {a : Addr} (ha : w.heap.size ≤ a.block) (v : Value) : Grew w (w'.setCell a v) :=
  Grew.of_below (h.below.setCell ha v)

/-- The call returns v, and the world has grown: whatever the world is. -/
def Gives (P : Program) (f : FuncId) (args : Array Value) (w : World) (v : Value) : Prop :=
  Calls P f args w fun e w' => e = .returned v ∧ ∃ x, w' = Go.Proofs.Ytoaciliojdaoaaa.more w x

theorem Gives.of_same {P : Program} {f : FuncId} {args : Array Value} {w : World} {v : Value} (h : Calls P f args w fun e w' => e = .returned v ∧ w' = w) : Gives P f args w v :=
  h.mono fun _ _ ⟨he, hw⟩ => ⟨he, _, hw.trans (more_self w).symm⟩
theorem Gives.of_grew {P : Program} {f : FuncId} {args : Array Value} {w : World} {v : Value} (h : Calls P f args w fun e w' => e = .returned v ∧ Grew w w') : Gives P f args w v := h
/-- Inside a region over worlds that have grown from w. -/
theorem Gives.within {P : Program} {f : FuncId} {args : Array Value} {w : World} {x : Xs} {v : Value} (h : Gives P f args (more w x) v) :
    Calls P f args (more w x) fun e w' => e = .returned v ∧ ∃ y, w' = more w y :=
  h.mono fun _ _ ⟨he, y, hy⟩ => ⟨he, _, hy.trans (more_more w x y)⟩

theorem Xs.join_join (x y z : Xs) : (x.join y).join z = x.join (y.join z) := by
  simp [Xs.join, Array.append_assoc]
theorem Gives.inside {P : Program} {f : FuncId} {args : Array Value} {w : World} {z x : Xs} {v : Value} (h : Gives P f args (more w (z.join x)) v) :
    Calls P f args (more w (z.join x)) fun e w' => e = .returned v ∧ ∃ y, w' = more w (z.join y) :=
  h.mono fun _ _ ⟨he, y, hy⟩ => ⟨he, x.join y, by rw [hy, more_more, Xs.join_join]⟩

/-- A region that draws its order, walked once, over all worlds that have grown from w. -/
theorem wp_region_more {P : Program} {id : Nat} {Q : Exit → Act → World → Prop} {a : Act} {w : World} {l : List Oper} (hm : P.follows .mixedOrders = true) (hB : Region.lexB .any l.toArray = true)
    (h : wpQuiet P l.toArray (fun w' => ∃ x, w' = more w x) (fun a' => ∀ w', (∃ x, w' = more w x) → Q .normal a' w') l a) : (Code.region id l.toArray true).wp P Q a w :=
  wp_region_quiet (C := fun w' => ∃ x, w' = more w x) hm hB ⟨_, more_drawn w _⟩ (by simpa using h)

/-- The head of a region, in whatever order, over worlds of a class; what is behind it is said of a listing and a frame. -/
def wpHead (P : Program) (md : Region.Mode) (ops : Array Oper) (C : World → Prop) (n : Nat) (T : Array Bool → Act → Prop) : Nat → Array Bool → Act → Prop
  | 0, listed, a => T listed a
  | f + 1, listed, a => Region.ready md ops listed ≠ [] ∧ ∀ i ∈ Region.ready md ops listed, i < n ∧ qOp P ops C i (wpHead P md ops C n T f (listed.setIfInBounds i true)) a

section
variable {P : Program} {ops : Array Oper} {md : Region.Mode} {C : World → Prop}
theorem wpAny_of_wpHead {n g : Nat} {T : Array Bool → Act → Prop} {Q' : Exit → Act → World → Prop} (hT : ∀ listed a w, C w → T listed a → wpAny P md ops Q' g listed a w) :
    ∀ (f : Nat) (listed : Array Bool) (a : Act) (w : World), C w → wpHead P md ops C n T f listed a → wpAny P md ops Q' (f + g) listed a w
  | 0, listed, a, w, hC, h => by rw [Nat.zero_add]; exact hT _ _ _ hC h
  | f + 1, listed, a, w, hC, h => by
    rw [show f + 1 + g = (f + g) + 1 by omega]
    exact ⟨fun h0 => absurd h0 h.1, fun i hi => wpOp_of_qOp hC (fun a' w' hw' h' => wpAny_of_wpHead hT f _ a' w' hw' h') (h.2 i hi).2⟩

theorem wpHead_first {n i : Nat} {oi : Oper} {v : Value} {T : Array Bool → Act → Prop} (hi : ops[i]? = some oi) (hsel : ∀ (j : Nat) (o : Oper) cs b, ops[j]? = some o → o.op ≠ .select cs b)
    (hs : Region.sinkB md ops n = true) (hc : Region.chainB md ops n = true) (hn : n < ops.size) (hin : i < n)
    (hdone : ∀ listed a, T listed a → ∀ j ∈ Region.ready md ops listed, n ≤ j) :
    ∀ (f : Nat) (listed : Array Bool) (a : Act), HeadInv md ops n listed →
      (∀ j oj, ops[j]? = some oj → j ≠ i → listed.getD j true = false → (∀ e ∈ oj.after, Region.binds md e = true → e.on ≠ i) → oi.apart ops oj = true) →
      i ∈ Region.ready md ops listed → YieldsIn P ops C oi v a →
      wpHead P md ops C n T f (listed.setIfInBounds i true) (a.put oi.dst v) → wpHead P md ops C n T (f + 1) listed a := by
  intro f
  induction f with
  | zero =>
    intro listed a inv _ hr hy hT
    have hun := (mem_ready.1 hr).1
    refine ⟨fun h => (by rw [h] at hr; cases hr), fun j hj => ?_⟩
    have hjn : j < n := by
      rcases Nat.lt_or_ge j n with h | h
      · exact h
      · exact absurd hj (tail_waits hs hc hn inv _ i rfl hin hun j h)
    refine ⟨hjn, ?_⟩
    by_cases hji : j = i
    · subst hji; exact hy.qOp hi hT
    · have := hdone _ _ hT j (ready_mono hj hji)
      omega
  | succ f ih =>
    intro listed a inv hfree hr hy hT
    have hun := (mem_ready.1 hr).1
    refine ⟨fun h => (by rw [h] at hr; cases hr), fun j hj => ?_⟩
    have hjn : j < n := by
      rcases Nat.lt_or_ge j n with h | h
      · exact h
      · exact absurd hj (tail_waits hs hc hn inv _ i rfl hin hun j h)
    refine ⟨hjn, ?_⟩
    by_cases hji : j = i
    · subst hji; exact hy.qOp hi hT
    · have h1 := (hT.2 j (ready_mono hj hji)).2
      obtain ⟨hjun, oj, hoj, hall⟩ := mem_ready.1 hj
      have hnot : ∀ e ∈ oj.after, Region.binds md e = true → e.on ≠ i := fun e he hb heq => by
        have h3 := hall e he hb
        rw [heq, getD_both hun] at h3
        cases h3
      have h2 := qOp_put hoj (hfree j oj hoj hji hjun hnot) (fun cs b => hsel i oi cs b hi) (fun cs b => hsel j oj cs b hoj) hy h1
      have hfree' : ∀ k ok, ops[k]? = some ok → k ≠ i → (listed.setIfInBounds j true).getD k true = false →
          (∀ e ∈ ok.after, Region.binds md e = true → e.on ≠ i) → oi.apart ops ok = true := fun k ok hk hki hu hno => by
        refine hfree k ok hk hki ?_ hno
        by_cases hjk : j = k
        · subst hjk; exact hjun
        · rw [getD_set_ne true hjk] at hu; exact hu
      refine qOp_mono (fun a' h3 => ih (listed.setIfInBounds j true) a' (inv.set hj hjn) hfree' (ready_mono hr (Ne.symm hji)) h3.1 ?_) h2
      rw [Array.setIfInBounds_comm _ _ hji]
      exact h3.2

theorem wpHead_lex {n g : Nat} {Lq : Act → Prop} (hsel : Region.noSelect ops = true) (hs : Region.sinkB md ops n = true) (hc : Region.chainB md ops n = true) (hn : n < ops.size) :
    ∀ (l : List Oper) (k : Nat) (listed : Array Bool) (a : Act), (∀ j, j < l.length → l[j]? = ops[k + j]?) → k + l.length = n → HeadInv md ops n listed →
    Region.lexHead md ops g l.length k listed = true → wpQuiet P ops C Lq l a →
    wpHead P md ops C n (fun listed' a' => Region.seqB md ops g n listed' = true ∧ Lq a') l.length listed a
  | [], k, listed, a, _, hk, _, hB, h => by
    have : k = n := by simpa using hk
    subst this
    exact ⟨by simpa [Region.lexHead] using hB, h⟩
  | o :: l, k, listed, a, hl, hk, inv, hB, h => by
    have h0 : ops[k]? = some o := by simpa using (hl 0 (by simp)).symm
    simp only [List.length_cons, Region.lexHead, Bool.and_eq_true] at hB
    obtain ⟨⟨hr, hf⟩, hB'⟩ := hB
    have hkn : k < n := by simp only [List.length_cons] at hk; omega
    have hr' : k ∈ Region.ready md ops listed := by simpa using hr
    have hst : qOp P ops C k (wpQuiet P ops C Lq l) a := by unfold qOp; simp only [h0]; exact h
    obtain ⟨v, hy, hK⟩ := yieldsIn_of_qOp h0 hst
    exact wpHead_first h0 (Region.noSelect_spec hsel) hs hc hn hkn (fun listed' a' hT => seqB_ready hT.1) l.length listed a inv (Region.free_spec h0 hf) hr' hy
      (wpHead_lex hsel hs hc hn l (k + 1) _ _ (fun j hj => by have := hl (j + 1) (by simp; omega); simpa [Nat.add_assoc, Nat.add_comm 1 j] using this) (by simp only [List.length_cons] at hk; omega) (inv.set hr' hkn) hB' hK)

/-- A region that draws its order: its first n operations walked once, over all worlds that have grown from w; the others, in their one order, from whichever of these. -/
theorem wp_region_more_tail {id : Nat} {Q : Exit → Act → World → Prop} {a : Act} {w : World} {l : List Oper} (n : Nat) (hm : P.follows .mixedOrders = true) (hB : Region.lexTailB .any l.toArray n = true)
    (h : wpQuiet P l.toArray (fun w' => ∃ x, w' = more w x) (fun a' => ∀ w', (∃ x, w' = more w x) → wpList P l.toArray Q (l.drop n) a' w') (l.take n) a) : (Code.region id l.toArray true).wp P Q a w := by
  simp only [Region.lexTailB, Bool.and_eq_true, decide_eq_true_eq] at hB
  obtain ⟨⟨⟨⟨hsel, hn⟩, hs⟩, hc⟩, hlex⟩ := hB
  have hn' : n < l.length := by simpa using hn
  have htl : (l.take n).length = n := by simp; omega
  have hdl : (l.drop n).length = l.toArray.size - n := by simp
  have inv0 : HeadInv .any l.toArray n (Array.replicate l.toArray.size false) :=
    ⟨by simp, fun j oj _ hl => (by rw [getD_replicate_false] at hl; cases hl), fun t _ ht => getD_in (by simpa using ht) (getD_replicate_false _ _)⟩
  have hH := wpHead_lex (C := fun w' => ∃ x, w' = more w x) (md := .any) (g := l.toArray.size - n) hsel hs hc hn (l.take n) 0 _ a (fun j hj => by
    have hj' : j < n := by rw [htl] at hj; exact hj
    simp [hj']) (by simpa using htl) inv0 (by rw [htl]; exact hlex) h
  refine wp_region_any hm ?_
  have := wpAny_of_wpHead (C := fun w' => ∃ x, w' = more w x) (Q' := Q) (g := l.toArray.size - n) (fun listed a' w' hC hT => by
    have := wpAny_of_seq (md := .any) (Q' := Q) (l.drop n) n listed a' w' (fun j => by simp [List.getElem?_drop]) (by rw [hdl]; exact hT.1) (hT.2 w' hC)
    rwa [hdl] at this) _ _ _ { w with drawn := w.drawn + 1 } ⟨⟨#[], w.drawn + 1⟩, more_drawn w (w.drawn + 1)⟩ hH
  rw [htl, show n + (l.toArray.size - n) = l.toArray.size by omega] at this
  exact this
end

/-- The address A leads to the cells xs, in memory that is there; nothing is asked of A if there are none. -/
def Row (w : World) (A : Option Addr) (xs : List Value) : Prop :=
  xs = [] ∨ ∃ b o, A = some ⟨b, o, none⟩ ∧ b < w.heap.size ∧ ∀ j u, xs[j]? = some u → w.cell? ⟨b, o + j, none⟩ = some u
theorem Row.more {w : World} {A : Option Addr} {xs : List Value} (h : Row w A xs) (x : Xs) : Row (more w x) A xs := by
  rcases h with h | ⟨b, o, hA, hb, hc⟩
  · exact Or.inl h
  · exact Or.inr ⟨b, o, hA, by rw [more_size]; omega, fun j u hu => by rw [more_cell _ _ _ hb]; exact hc j u hu⟩
theorem Row.grew {w w' : World} {A : Option Addr} {xs : List Value} (h : Row w A xs) (hg : Grew w w') : Row w' A xs := by
  obtain ⟨x, rfl⟩ := hg
  exact h.more x
theorem Row.at_ {w : World} {A : Option Addr} {xs : List Value} {k : Nat} (h : Row w A xs) (hk : k < xs.length) :
    ∃ b o, A = some ⟨b, o, none⟩ ∧ b < w.heap.size ∧ w.cell? ⟨b, o + k, none⟩ = some xs[k] := by
  rcases h with h | ⟨b, o, hA, hb, hc⟩
  · subst h
    simp at hk
  · exact ⟨b, o, hA, hb, hc k _ (List.getElem?_eq_getElem hk)⟩

theorem ret_int {a b : Int} (h : a = b) : Ending.returned (.int .i64 a) = .returned (.int .i64 b) := by rw [h]
theorem ret_bool {a b : Bool} (h : a = b) : Ending.returned (.bool a) = .returned (.bool b) := by rw [h]
theorem ret_ib {a b : Int} {x y : Bool} (h : a = b) (k : x = y) : Ending.returned (.tuple #[.int .i64 a, .bool x]) = .returned (.tuple #[.int .i64 b, .bool y]) := by rw [h, k]

end Go.Proofs.Ytoaciliojdaoaaa
