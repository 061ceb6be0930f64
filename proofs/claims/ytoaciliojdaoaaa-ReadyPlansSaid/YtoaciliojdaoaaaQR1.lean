/- Layers 31 to 33: any query's pipes may all go on, one after the other, the driver's last: plain mathematics. Condition: the order holds every table of the core; the filters are among those that there may be. (Tried by plain lean over XPlcM, XRdyAcy; not yet built in a seat.) -/
import Derived.Test.YtoaciliojdaoaaaUf5
import Derived.Test.YtoaciliojdaoaaaFrame4
import Derived.Test.YtoaciliojdaoaaaQNa
import Derived.Maps.OwnSet
import Derived.Maps.RangeWalk
import Derived.Test.YtoaciliojdaoaaaReadW
import Derived.Test.YtoaciliojdaoaaaQNb
import Derived.Deep.QuietTactic
import Derived.Test.YtoaciliojdaoaaaUfAll2
import Derived.Test.YtoaciliojdaoaaaApp2
import Derived.Maps.Own
import Derived.DeepKeys4
import Derived.Test.YtoaciliojdaoaaaUfCls
import Derived.Maps.OwnOps
import Derived.Deep.OwnRows
import Derived.Test.YtoaciliojdaoaaaUfAll
import Derived.WalkMore
import Derived.Test.YtoaciliojdaoaaaQPa

/- Layer 6: classes behind joins, and the document's own beside them. Condition: no more than 60 pairs, which lie in memory that is there. -/
namespace Go.Proofs.Ytoaciliojdaoaaa
open Go.RowKit
attribute [local go_sem] more_cell more_frozen more_more more_setCell more_of_drew more_of_drewN lt_more le_more past_cell past_cell2 past_frozen past_frozen2 past_setCell past_setCell2 mid_cell mid_frozen mid_setCell
attribute [local go_sem ↓] Go.wp_at_zero Go.wp_at_succ

/-- The cells of pairs. -/
def pairsC (l : List (Int × Int)) : List (List Value) := l.map fun p => [.int .i64 p.1, .int .i64 p.2]
theorem pairs_at {w : World} {A : Option Addr} {l : List (Int × Int)} {k : Nat} (h : Grid w A 2 (pairsC l)) (hk : k < l.length) :
    ∃ b o, A = some ⟨b, o, none⟩ ∧ b < w.heap.size ∧ w.cell? ⟨b, o + k * 2, none⟩ = some (.int .i64 l[k].1) ∧ w.cell? ⟨b, o + k * 2 + 1, none⟩ = some (.int .i64 l[k].2) := by
  obtain ⟨b, o, hA, hb, hc⟩ := h.at_ (k := k) (by simpa [pairsC] using hk)
  refine ⟨b, o, hA, hb, ?_, ?_⟩
  · have := hc 0 (.int .i64 l[k].1) (by simp [pairsC])
    simpa using this
  · have := hc 1 (.int .i64 l[k].2) (by simp [pairsC])
    rw [Nat.add_assoc]
    exact this
theorem pairs_cells {u w : World} {b o : Nat} {l : List (Int × Int)} {k : Nat} {x y : Int} (h : Grid u (some ⟨b, o, none⟩) 2 (pairsC l)) (hg : Grew u w) (hk : k < l.length) (hx : l[k].1 = x) (hy : l[k].2 = y) :
    b < w.heap.size ∧ w.cell? ⟨b, o + k * 2, none⟩ = some (.int .i64 x) ∧ w.cell? ⟨b, o + k * 2 + 1, none⟩ = some (.int .i64 y) := by
  obtain ⟨b', o', hA, hb, c0, c1⟩ := pairs_at (h.grew hg) hk
  injection hA with hA
  injection hA with e1 e2 _
  subst e1 e2 hx hy
  exact ⟨hb, c0, c1⟩
theorem pairs_some {u : World} {P : Option Addr} {l : List (Int × Int)} {k : Nat} (h : Grid u P 2 (pairsC l)) (hk : k < l.length) : ∃ b o, P = some ⟨b, o, none⟩ := by
  obtain ⟨b, o, hA, _⟩ := pairs_at h hk
  exact ⟨b, o, hA⟩
/-- Each number's class behind the joins. -/
def foldR (n : Nat) (l : List (Int × Int)) : Nat → Nat := l.foldl (fun r p => joinI n r p.1 p.2) id
theorem foldR_take (n : Nat) (l : List (Int × Int)) (k : Nat) (h : k < l.length) : foldR n (l.take (k + 1)) = joinI n (foldR n (l.take k)) l[k].1 l[k].2 := by
  rw [List.take_succ_eq_append_getElem h]
  unfold foldR
  rw [List.foldl_append]
  rfl
/-- Classes, and the document's own beside them. -/
structure Both (u : World) (g h n : Nat) (r : Nat → Nat) (A : Option Addr) (w : World) : Prop where
  cls : UfS u g h n r w
  row : Row w A (numsL n r)
  off : Off A g h
theorem Both.on {u w w' : World} {g h n : Nat} {r : Nat → Nat} {A : Option Addr} (s : Both u g h n r A w) (k : Grew w w') : Both u g h n r A w' := ⟨s.cls.on k, s.row.grew k, s.off⟩
/-- Behind the document's own join, in a world in which the classes have been joined. -/
theorem rjoin_both (a b : Int) (c : Nat) (u w : World) (g h n : Nat) (r r' : Nat → Nat) (A : Option Addr) (s : UfS u g h n r' w) (hr : Row w A (numsL n r)) (ho : Off A g h) (hr' : joinI n r a b = r') :
    Calls Try.prog 81 #[.slice A n c, .int .i64 a, .int .i64 b] w fun e w' => ∃ A' c', e = .returned (.slice A' n c') ∧ Both u g h n r' A' w' := by
  subst hr'
  have hn := s.small
  have hlt := s.lt
  have hend : ∀ e w', Nums w A n (joinI n r a b) e w' → ∃ A' c', e = .returned (.slice A' n c') ∧ Both u g h n (joinI n r a b) A' w' := by
    rintro e w' ⟨A', c', he, hg, hrow, hor⟩
    refine ⟨A', c', he, s.on hg, hrow, ?_⟩
    rcases hor with rfl | hp
    · exact ho
    · intro p hp'
      have := hp p hp'
      omega
  by_cases hi : inB n a b
  · have hi' := hi
    unfold inB at hi'
    have e1 : joinI n r a b = joinR r (r a.toNat) (r b.toNat) := if_pos hi
    obtain ⟨a', rfl⟩ := Int.eq_ofNat_of_zero_le hi'.1
    obtain ⟨b', rfl⟩ := Int.eq_ofNat_of_zero_le hi'.2.1
    rw [e1] at hend ⊢
    rw [Int.toNat_natCast, Int.toNat_natCast] at hend ⊢
    exact (rjoin_yes A n c r a' b' _ _ w hr (by omega) (by omega) (by omega) rfl rfl).mono hend
  · have e1 : joinI n r a b = r := if_neg hi
    rw [e1] at hend ⊢
    exact (rjoin_no A n c r a b w hr (by unfold inB at hi; omega)).mono hend
theorem rnew_both (n : Nat) (u w : World) (g h : Nat) (s : UfS u g h n id w) : Calls Try.prog 80 #[.int .i64 n] w fun e w' => ∃ A c, e = .returned (.slice A n c) ∧ Both u g h n id A w' := by
  have hn := s.small
  have hlt := s.lt
  refine (rnew_any n (by omega) w).mono ?_
  rintro e w' ⟨A', c', he, hg, hrow, hor⟩
  refine ⟨A', c', he, s.on hg, hrow, ?_⟩
  rcases hor with rfl | hp
  · intro p hp'; cases hp'
  · intro p hp'
    have := hp p hp'
    omega
def PlayAt (u : World) (g h n : Nat) (l : List (Int × Int)) (R i : Value) (wr : World) : Prop :=
  ∃ (j : Nat) (A : Option Addr) (c : Nat), j ≤ l.length ∧ i = .int .i64 j ∧ R = .slice A n c ∧ Both u g h n (foldR n (l.take j)) A wr
/-- What play tells. -/
def Played (u : World) (n : Nat) (l : List (Int × Int)) (e : Ending) (w' : World) : Prop :=
  ∃ (g h : Nat) (A : Option Addr) (c : Nat), e = .returned (.tuple #[.pointer (some ⟨g, 0, none⟩), .slice A n c]) ∧ Both u g h n (foldR n l) A w'
end Go.Proofs.Ytoaciliojdaoaaa

/- Layer 6: whose class a number is in does not hang on the order of the joins: plain mathematics. No condition. -/
namespace Go.Proofs.Ytoaciliojdaoaaa

/-- Two numbers hang together by some pairs. -/
inductive Conn (n : Nat) (l : List (Int × Int)) : Nat → Nat → Prop
  | refl (i : Nat) : Conn n l i i
  | pair (p : Int × Int) (h : p ∈ l) (hi : inB n p.1 p.2) : Conn n l p.1.toNat p.2.toNat
  | symm {i j : Nat} (h : Conn n l i j) : Conn n l j i
  | trans {i j k : Nat} (h : Conn n l i j) (h' : Conn n l j k) : Conn n l i k
theorem Conn.mono {n : Nat} {l l' : List (Int × Int)} (hll : ∀ p ∈ l, p ∈ l' ∨ (p.2, p.1) ∈ l') {i j : Nat} (h : Conn n l i j) : Conn n l' i j := by
  induction h with
  | refl i => exact .refl i
  | pair p hp hi =>
    rcases hll p hp with h | h
    · exact .pair p h hi
    · exact .symm (.pair (p.2, p.1) h (by unfold inB at hi ⊢; simp only; omega))
  | symm _ ih => exact .symm ih
  | trans _ _ ih ih' => exact .trans ih ih'
theorem foldR_snoc (n : Nat) (l : List (Int × Int)) (p : Int × Int) : foldR n (l ++ [p]) = joinI n (foldR n l) p.1 p.2 := by
  unfold foldR
  rw [List.foldl_append]
  rfl
theorem snoc_ind {α : Type} {M : List α → Prop} (h0 : M []) (h1 : ∀ l x, M l → M (l ++ [x])) (l : List α) : M l := by
  have h : ∀ k : Nat, k ≤ l.length → M (l.take k) := by
    intro k
    induction k with
    | zero => intro _; rw [List.take_zero]; exact h0
    | succ k ih =>
      intro hk
      rw [List.take_succ_eq_append_getElem (by omega)]
      exact h1 _ _ (ih (by omega))
  have := h l.length (Nat.le_refl _)
  rwa [List.take_length] at this
theorem foldR_least (n : Nat) (l : List (Int × Int)) : Least n (foldR n l) := by
  induction l using snoc_ind with
  | h0 => exact ⟨fun i _ => Nat.le_refl i, fun _ _ => rfl⟩
  | h1 l p ih => rw [foldR_snoc]; exact ih.joinI _ _
theorem foldR_conn (n : Nat) (l : List (Int × Int)) : ∀ i j, foldR n l i = foldR n l j → Conn n l i j := by
  induction l using snoc_ind with
  | h0 =>
    intro i j h
    have : i = j := h
    subst this
    exact .refl i
  | h1 l p ih =>
    have ih' : ∀ i j, foldR n l i = foldR n l j → Conn n (l ++ [p]) i j := fun i j h => (ih i j h).mono (fun q hq => Or.inl (by simp [hq]))
    intro i j h
    rw [foldR_snoc] at h
    unfold joinI at h
    by_cases hi : inB n p.1 p.2
    · rw [if_pos hi] at h
      have hp : Conn n (l ++ [p]) p.1.toNat p.2.toNat := .pair p (by simp) hi
      unfold joinR at h
      rcases Nat.le_total (foldR n l p.1.toNat) (foldR n l p.2.toNat) with h7 | h7
      · rw [Nat.max_eq_right h7, Nat.min_eq_left h7] at h
        split at h <;> split at h <;> rename_i e1 e2
        · exact ih' i j (by omega)
        · exact (ih' i _ e1).trans (hp.symm.trans (ih' _ j h))
        · exact (ih' i _ h).trans (hp.trans (ih' _ j e2.symm))
        · exact ih' i j h
      · rw [Nat.max_eq_left h7, Nat.min_eq_right h7] at h
        split at h <;> split at h <;> rename_i e1 e2
        · exact ih' i j (by omega)
        · exact (ih' i _ e1).trans (hp.trans (ih' _ j h))
        · exact (ih' i _ h).trans (hp.symm.trans (ih' _ j e2.symm))
        · exact ih' i j h
    · rw [if_neg hi] at h
      exact ih' i j h
theorem foldR_pair (n : Nat) (l : List (Int × Int)) : ∀ p ∈ l, inB n p.1 p.2 → foldR n l p.1.toNat = foldR n l p.2.toNat := by
  induction l using snoc_ind with
  | h0 => intro p hp; cases hp
  | h1 l q ih =>
    intro p hp hi
    rw [foldR_snoc]
    unfold joinI
    rcases List.mem_append.1 hp with h | h
    · have := ih p h hi
      split
      · unfold joinR
        rw [this]
      · exact this
    · simp only [List.mem_singleton] at h
      subst h
      rw [if_pos hi]
      unfold joinR
      rcases Nat.le_total (foldR n l p.1.toNat) (foldR n l p.2.toNat) with h7 | h7
      · rw [Nat.max_eq_right h7, Nat.min_eq_left h7, if_pos rfl]
        split <;> omega
      · rw [Nat.max_eq_left h7, Nat.min_eq_right h7, if_pos rfl]
        split <;> omega
theorem foldR_of_conn (n : Nat) (l : List (Int × Int)) {i j : Nat} (h : Conn n l i j) : foldR n l i = foldR n l j := by
  induction h with
  | refl i => rfl
  | pair p hp hi => exact foldR_pair n l p hp hi
  | symm _ ih => exact ih.symm
  | trans _ _ ih ih' => exact ih.trans ih'
/-- The same classes, whatever the order. -/
theorem foldR_order (n : Nat) (l l' : List (Int × Int)) (h1 : ∀ p ∈ l, p ∈ l' ∨ (p.2, p.1) ∈ l') (h2 : ∀ p ∈ l', p ∈ l ∨ (p.2, p.1) ∈ l) (i : Nat) (hi : i < n) : foldR n l i = foldR n l' i := by
  have a := foldR_least n l
  have b := foldR_least n l'
  have k1 : foldR n l' (foldR n l i) = foldR n l' i := foldR_of_conn n l' ((foldR_conn n l _ _ (a.idem i hi)).mono h1)
  have k2 : foldR n l (foldR n l' i) = foldR n l i := foldR_of_conn n l ((foldR_conn n l' _ _ (b.idem i hi)).mono h2)
  have a1 := a.le i hi
  have b1 := b.le i hi
  have k3 := b.le (foldR n l i) (by omega)
  have k4 := a.le (foldR n l' i) (by omega)
  omega
theorem findI_congr {n : Nat} {r r' : Nat → Nat} (h : ∀ i, i < n → r i = r' i) (a : Int) : findI n r a = findI n r' a := by
  unfold findI
  split
  · rw [h _ (by omega)]
  · rfl
theorem sameB_congr {n : Nat} {r r' : Nat → Nat} (h : ∀ i, i < n → r i = r' i) (a b : Int) : sameB n r a b = sameB n r' a b := by
  unfold sameB
  rw [findI_congr h, findI_congr h]
theorem sameB_symm (n : Nat) (r : Nat → Nat) (a b : Int) : sameB n r a b = sameB n r b a := by
  unfold sameB
  by_cases h : findI n r a = findI n r b
  · rw [h]
  · rw [beq_eq_false_iff_ne.2 h, beq_eq_false_iff_ne.2 (fun e => h e.symm), Bool.and_false, Bool.and_false]
theorem sameB_trans (n : Nat) (r : Nat → Nat) {a b d : Int} (h1 : sameB n r a b = true) (h2 : sameB n r b d = true) : sameB n r a d = true := by
  unfold sameB at *
  simp only [Bool.and_eq_true, decide_eq_true_eq, beq_iff_eq] at *
  exact ⟨h1.1, h1.2.trans h2.2⟩
end Go.Proofs.Ytoaciliojdaoaaa

/- Layer 21: the page's example; the law of two sets. Condition: numbers that an int holds. -/
/- Sets of numbers of one's own: maps without elements. Condition: fewer numbers than lengths go. -/
namespace Go.Proofs.Ytoaciliojdaoaaa
open Go.RowKit Go.Maps

def wfI (x : Int) : Prop := (Lit.int .i64 x).wf = true
theorem law_int : Keyed Try.prog 3 := int_keyed Try.underlying3
theorem key_int {x : Int} (h : wfI x) : keyOf Try.prog 3 (.int .i64 x) = some (.int .i64 x) := keyOf_int_mk Try.underlying3 h
theorem sameK (x y : Int) : (Lit.int .i64 x).sameKey (Lit.int .i64 y) = (x == y) := by
  by_cases h : x = y
  · subst h
    rw [WideAt.sameKey_self (a := .int .i64 x) (by trivial)]
    simp
  · rw [sameKey_ne (fun e => h (by injection e))]
    simp [h]
/-- Block b is a set of just the numbers of L. -/
def SetL (w : World) (b : Nat) (L : List Int) : Prop := ∃ (n : Nat) (D : DataW Unit), n ≤ L.length ∧ w.ownsMap Try.prog 3 unitElem b n D ∧ ∀ x, wfI x → (Maps.has D (.int .i64 x) = true ↔ x ∈ L)
theorem SetL.lt {w : World} {b : Nat} {L : List Int} (h : SetL w b L) : b < w.heap.size := by
  obtain ⟨n, D, _, h, _⟩ := h
  exact h.lt
theorem SetL.kept {w w' : World} {b : Nat} {L : List Int} {row : Option Nat} (h : SetL w b L) (g : w.grownBy w' row) (hr : some b ≠ row) : SetL w' b L := by
  obtain ⟨n, D, hn, h, k⟩ := h
  exact ⟨n, D, hn, h.kept g hr, k⟩
theorem SetL.grew {w w' : World} {b : Nat} {L : List Int} (h : SetL w b L) (g : Grew w w') : SetL w' b L := by
  obtain ⟨n, D, hn, ⟨es, clock, hb, hr⟩, k⟩ := h
  obtain ⟨x, rfl⟩ := g
  refine ⟨n, D, hn, ⟨es, clock, ?_, hr⟩, k⟩
  rw [more_block _ _ _ (heap_lt hb)]
  exact hb
theorem set_new (w : World) (b : Nat) (hb : b = w.heap.size) : SetL (w.alloc (.map #[] 0)) b [] := by
  subst hb
  exact ⟨0, .map [], Nat.le_refl _, World.ownsMap_made w _ _ _, fun x _ => by simp [Maps.has]⟩
section
variable {w : World} {ops : Array Oper} {rest : List Oper} {o : Oper} {a : Act} {Q : Exit → Act → World → Prop} {b : Nat} {L : List Int}
theorem zero_unit (w : World) : (zeroValue 99).run Try.prog w = .ok (.agg #[]) w := by kernel_rfl
end
/-- A set that is ranged over: which numbers are still to come, and how many. -/
def SetR (w : World) (b r : Nat) (L : List Int) (left : Int → Bool) (cnt : Nat) : Prop := ∃ (n : Nat) (D : DataW Unit) (lf : Lit → Bool), n ≤ L.length ∧ w.ranges Try.prog 3 unitElem b r n D lf cnt ∧ cnt ≤ L.length ∧
  (∀ x, wfI x → (Maps.has D (.int .i64 x) = true ↔ x ∈ L)) ∧ (∀ x, wfI x → lf (.int .i64 x) = left x) ∧ ∀ x, wfI x → left x = true → x ∈ L
theorem SetR.set {w : World} {b r cnt : Nat} {L : List Int} {left : Int → Bool} (h : SetR w b r L left cnt) : SetL w b L := by
  obtain ⟨n, D, lf, hn, h, _, k, _⟩ := h
  exact ⟨n, D, hn, h.owns, k⟩
theorem SetR.kept {w w' : World} {b r cnt : Nat} {L : List Int} {left : Int → Bool} {row : Option Nat} (h : SetR w b r L left cnt) (g : w.grownBy w' row) (hb : some b ≠ row) (hr : some r ≠ row) : SetR w' b r L left cnt := by
  obtain ⟨n, D, lf, hn, h, k⟩ := h
  exact ⟨n, D, lf, hn, h.kept g hb hr, k⟩
theorem SetR.grew {w w' : World} {b r cnt : Nat} {L : List Int} {left : Int → Bool} (h : SetR w b r L left cnt) (g : Grew w w') : SetR w' b r L left cnt := by
  refine h.kept (row := none) ?_ (by simp) (by simp)
  have hb := g.below
  exact ⟨hb.os, hb.tape, hb.output, hb.size, fun i hi _ => hb.block i hi⟩
theorem SetR.lt {w : World} {b r cnt : Nat} {L : List Int} {left : Int → Bool} (h : SetR w b r L left cnt) : b < w.heap.size ∧ r < w.heap.size := by
  obtain ⟨n, D, lf, hn, h, _⟩ := h
  exact ⟨h.owns.lt, h.lt⟩
section
variable {w : World} {ops : Array Oper} {rest : List Oper} {o : Oper} {a : Act} {Q : Exit → Act → World → Prop} {b : Nat} {L : List Int}
/-- The step: nothing is left, or one comes, whichever. -/
theorem wpList_snext (hg : o.guard = none) (it : Operand) (hop : o.op = Op.next it false) (r : Nat) (left : Int → Bool) (cnt : Nat) (hit : a.eval it = .pointer (some ⟨r, 0, none⟩)) (h : SetR w b r L left cnt)
    (hDone : (∀ x, wfI x → left x = false) → wpList Try.prog ops Q rest (a.put o.dst (.tuple #[.bool false])) w)
    (hMore : ∀ (x : Int) (w' : World) (cnt' : Nat), wfI x → left x = true → x ∈ L → SetR w' b r L (fun y => left y && !(y == x)) cnt' → cnt' < cnt → w.grownBy w' (some r) → w'.heap.size = w.heap.size →
      (Instr.entry (.pointer (some ⟨r, 0, none⟩))).run Try.prog w' = .ok (.tuple #[.int .i64 x, .agg #[]]) w' → wpList Try.prog ops Q rest (a.put o.dst (.tuple #[.bool true, .int .i64 x, .agg #[]])) w') : wpList Try.prog ops Q (o :: rest) a w := by
  obtain ⟨n, D, lf, hn, h, hc, k, kl, ks⟩ := h
  refine wpList_next_ranges (α := Int) (β := Unit) w hg it hop 3 law_int unitElem (Value.int .i64) (fun _ => .agg #[]) (fun key kl hkey => by obtain ⟨x, rfl, _⟩ := Maps.keyOf_int_inv Try.underlying3 hkey; exact ⟨x, rfl⟩) (fun v y hv => ⟨(), (unitElem_inv hv).1⟩)
    b r n D lf cnt hit h ?_ ?_
  · intro _ hl
    exact hDone fun x hx => by rw [← kl x hx]; exact hl _
  · intro x _ kl' y w' cnt' hkey hlx _ _ h1 h2 h3 h4 h5
    obtain ⟨x', ex, rfl, hwx⟩ := Maps.keyOf_int_inv Try.underlying3 hkey
    injection ex with _ ex
    subst ex
    have hl : left x = true := by rw [← kl x hwx]; exact hlx
    refine hMore x w' cnt' hwx hl (ks x hwx hl) ⟨n, D, _, hn, h1, by omega, k, fun z hz => ?_, fun z hz hlz => ks z hz (by simp at hlz; exact hlz.1)⟩ h2 h3 h4 h5
    simp only
    rw [kl z hz, sameK]
end
end Go.Proofs.Ytoaciliojdaoaaa

/- Lists of numbers in a list, in memory. No condition. -/
namespace Go.Proofs.Ytoaciliojdaoaaa
open Go.RowKit

def IlR (R : Rw) (l : List Int) (cs : List Value) : Prop := ∃ A k, cs = [.slice A l.length k] ∧ R 3 A (iV l)
def GridI (R : Rw) (A : Option Addr) (h : List (List Int)) : Prop := ∃ css, ListR (IlR R) 1 h css ∧ R 30 A css.flatten
theorem IlR.imp {R R' : Rw} {l : List Int} {cs : List Value} (h : IlR R l cs) (H : ∀ A xs, R 3 A xs → R' 3 A xs) : IlR R' l cs := by
  obtain ⟨A, k, h1, h2⟩ := h
  exact ⟨A, k, h1, H _ _ h2⟩
theorem GridI.imp {R R' : Rw} {A : Option Addr} {h : List (List Int)} (k : GridI R A h) (H : ∀ e A xs, R e A xs → R' e A xs) : GridI R' A h := by
  obtain ⟨css, h1, h2⟩ := k
  exact ⟨css, h1.map (fun x cs hr => hr.imp (H _)), H _ _ _ h2⟩
theorem GridI.grew {w w' : World} {A : Option Addr} {h : List (List Int)} (k : GridI (PRow w) A h) (g : Grew w w') : GridI (PRow w') A h := k.imp fun _ _ _ h => Row.grew h g
theorem gridI_at {w : World} {A : Option Addr} {h : List (List Int)} (k : GridI (PRow w) A h) {i : Nat} (hi : i < h.length) :
    ∃ b o B c, A = some ⟨b, o, none⟩ ∧ b < w.heap.size ∧ w.cell? ⟨b, o + i, none⟩ = some (.slice B h[i].length c) ∧ Row w B (iV h[i]) := by
  obtain ⟨css, h1, h2⟩ := k
  obtain ⟨b, o, cs, hA, hb, hr, _, hc⟩ := h1.at_ h2 (by decide) hi
  obtain ⟨B, c, rfl, hx⟩ := hr
  have := hc 0 _ rfl
  rw [Nat.mul_one] at this
  exact ⟨b, o, B, c, hA, hb, this, hx⟩
theorem gridI_nil (w : World) (A : Option Addr) : GridI (PRow w) A [] := ⟨[], ListR.nil, Or.inl rfl⟩
theorem gridI_one (w : World) (B : Option Addr) (l : List Int) (c : Nat) (hr : Row w B (iV l)) : GridI (PRow (w.alloc (.cells #[.slice B l.length c] 30))) (some ⟨w.heap.size, 0, none⟩) [l] := by
  refine ⟨[[.slice B l.length c]], ?_, row_new _ _ _ _ rfl⟩
  have := (ListR.nil (R := IlR (PRow (w.alloc (.cells #[.slice B l.length c] 30)))) (size := 1)).snoc (x := l) (cs := [.slice B l.length c]) ⟨B, c, rfl, row_alloc hr _⟩ rfl
  simpa using this
def wfL (l : List Int) : Prop := ∀ x ∈ l, wfI x
def wfG (h : List (List Int)) : Prop := ∀ l ∈ h, wfL l
theorem flat_take {h : List (List Int)} {j : Nat} (hj : j < h.length) : (h.take (j + 1)).flatten = (h.take j).flatten ++ h[j] := by
  rw [List.take_succ_eq_append_getElem hj, List.flatten_append]
  simp
theorem flat_le (h : List (List Int)) (j : Nat) : ((h.take j).flatten).length ≤ h.flatten.length := by
  have := congrArg List.length (congrArg List.flatten (List.take_append_drop j h))
  rw [List.flatten_append, List.length_append] at this
  omega
section
variable {H : Type} {enc : TypeId × Value → H} {W : World}
end
end Go.Proofs.Ytoaciliojdaoaaa

/- Layer 21: sets of numbers, by the program: made of lists, asked, told in order. Condition: no more than a million numbers. -/
namespace Go.Proofs.Ytoaciliojdaoaaa
open Go.RowKit
attribute [local go_sem] more_cell more_frozen more_more more_setCell more_of_drew more_of_drewN lt_more le_more past_cell past_cell2 past_frozen past_frozen2 past_setCell past_setCell2 mid_cell mid_frozen mid_setCell
attribute [local go_sem ↓] Go.wp_at_zero Go.wp_at_succ

def SoAt (u : World) (b : Nat) (h : List (List Int)) (i : Value) (wr : World) : Prop := ∃ j : Nat, j ≤ h.length ∧ i = .int .i64 j ∧ Grew u wr ∧ SetL wr b (h.take j).flatten
def SoIn (u : World) (b : Nat) (L l : List Int) (i : Value) (wr : World) : Prop := ∃ j : Nat, j ≤ l.length ∧ i = .int .i64 j ∧ Grew u wr ∧ SetL wr b (L ++ l.take j)
/-- A set that is handed back. -/
def SetFg (w : World) (L : List Int) (e : Ending) (w' : World) : Prop := ∃ b, e = .returned (.map (some b)) ∧ w.heap.size ≤ b ∧ Grew w w' ∧ SetL w' b L
theorem grew_map {u w w' : World} {b : Nat} (g : Grew u w) (hb : u.heap.size ≤ b) (h : w.grownBy w' (some b)) : Grew u w' := g.grown h fun k hk => by cases hk; exact hb
end Go.Proofs.Ytoaciliojdaoaaa

/- Layer 21: a set's numbers, in order; what two share; vertices. Condition: no more than a million numbers. -/
namespace Go.Proofs.Ytoaciliojdaoaaa
open Go.RowKit
attribute [local go_sem] more_cell more_frozen more_more more_setCell more_of_drew more_of_drewN lt_more le_more past_cell past_cell2 past_frozen past_frozen2 past_setCell past_setCell2 mid_cell mid_frozen mid_setCell
attribute [local go_sem ↓] Go.wp_at_zero Go.wp_at_succ

/-- Numbers of a set, as far as they have come, in a row of one's own. -/
structure RisS (u : World) (b r base : Nat) (L : List Int) (left : Int → Bool) (cnt : Nat) (A : Option Addr) (c : Nat) (l : List Int) (wr : World) : Prop where
  grew : Grew u wr
  set : SetR wr b r L left cnt
  own : wr.ownsRow base 3 1 (.slice A l.length c) l.length (iV l)
  nodup : l.Nodup
  mem : ∀ x, wfI x → (x ∈ l ↔ x ∈ L ∧ left x = false)
  wf : wfL l
  few : l.length + cnt ≤ L.length
def RisAt (u : World) (b r base : Nat) (L : List Int) (v : Value) (wr : World) : Prop := ∃ (left : Int → Bool) (cnt : Nat) (A : Option Addr) (c : Nat) (l : List Int), v = .slice A l.length c ∧ RisS u b r base L left cnt A c l wr
def cntOf (w : World) (b r : Nat) : Nat := w.rangeLeft b r
theorem SetR.left_eq {w : World} {b r cnt : Nat} {L : List Int} {left : Int → Bool} (h : SetR w b r L left cnt) : cntOf w b r = cnt := by
  obtain ⟨n, D, lf, hn, h, _⟩ := h
  exact h.left_eq
theorem SetR.apart {w : World} {b r cnt : Nat} {L : List Int} {left : Int → Bool} (h : SetR w b r L left cnt) {base size n : Nat} {e : TypeId} {v : Value} {xs : List Value} (ho : w.ownsRow base e size v n xs) : ∀ k, v.ownBlock = some k → k ≠ b ∧ k ≠ r := by
  obtain ⟨_, D, lf, _, ⟨es, clock, since, seen, c0, hb, _, _, _, hr, _⟩, _⟩ := h
  intro k hk
  rcases ho.2 with ⟨rfl, _⟩ | ⟨g, cap, cur, rfl, _, hh, _⟩
  · cases hk
  · simp [Value.ownBlock] at hk
    subst hk
    refine ⟨fun e => ?_, fun e => ?_⟩
    · subst e; rw [hb] at hh; cases hh
    · subst e; rw [hr] at hh; cases hh
theorem RisS.step {u wr w1 w2 : World} {b r base cnt cnt' : Nat} {L : List Int} {left : Int → Bool} {A A' : Option Addr} {c c' : Nat} {l : List Int} {x : Int} (h : RisS u b r base L left cnt A c l wr) (hb : u.heap.size ≤ r) (hu : u.heap.size ≤ base)
    (hx : wfI x) (hl : left x = true) (hL : x ∈ L) (hs : SetR w1 b r L (fun y => left y && !(y == x)) cnt') (hc : cnt' < cnt) (hg : wr.grownBy w1 (some r))
    (ho : w2.ownsRow base 3 1 (.slice A' (l.length + 1) c') (l.length + 1) (iV l ++ [.int .i64 x])) (o : Obj) (hg2 : (w1.alloc o).grownBy w2 (Value.slice A l.length c).ownBlock) :
    RisS u b r base L (fun y => left y && !(y == x)) cnt' A' c' (l ++ [x]) w2 := by
  have hrow : ∀ k, (Value.slice A l.length c).ownBlock = some k → base ≤ k := own_base h.own
  have hnx : x ∉ l := fun hm => by have := (h.mem x hx).1 hm; rw [hl] at this; exact absurd this.2 (by simp)
  refine ⟨((grew_map h.grew hb hg).alloc o).grown hg2 fun k hk => Nat.le_trans hu (hrow k hk), (hs.grew ((Grew.refl w1).alloc o)).kept hg2 (fun e => (h.set.apart h.own _ e.symm).1 rfl) (fun e => (h.set.apart h.own _ e.symm).2 rfl), ?_, ?_, fun y hy => ?_, ?_, ?_⟩
  · rw [List.length_append]
    rw [iV_snoc] at ho
    exact ho
  · rw [List.nodup_append]
    exact ⟨h.nodup, by simp, fun a ha b hb e => by simp at hb; subst hb; subst e; exact hnx ha⟩
  · rw [List.mem_append, h.mem y hy, List.mem_singleton]
    by_cases e : y = x
    · subst e
      simp [hL]
    · simp [e]
  · intro y hy
    rcases List.mem_append.1 hy with hy | hy
    · exact h.wf y hy
    · rw [List.mem_singleton.1 hy]; exact hx
  · rw [List.length_append]
    have := h.few
    simp
    omega
end Go.Proofs.Ytoaciliojdaoaaa

/- Layer 21: what two lists share; is one within the other; vertices, degrees, by the program. Condition: no more than a million numbers. -/
namespace Go.Proofs.Ytoaciliojdaoaaa
open Go.RowKit
attribute [local go_sem] more_cell more_frozen more_more more_setCell more_of_drew more_of_drewN lt_more le_more past_cell past_cell2 past_frozen past_frozen2 past_setCell past_setCell2 mid_cell mid_frozen mid_setCell
attribute [local go_sem ↓] Go.wp_at_zero Go.wp_at_succ

theorem wfG_one {l : List Int} (h : wfL l) : wfG [l] := fun m hm => by rw [List.mem_singleton.1 hm]; exact h
/-- What both have, as far as it has come. -/
structure ShS (u : World) (ba r b1 b2 : Nat) (a b : List Int) (left : Int → Bool) (cnt : Nat) (K : List Int) (wr : World) : Prop where
  grew : Grew u wr
  rng : SetR wr ba r a left cnt
  one : SetL wr b1 b
  two : SetL wr b2 K
  mem : ∀ x, wfI x → (x ∈ K ↔ (x ∈ a ∧ x ∈ b) ∧ left x = false)
  wf : wfL K
  few : K.length + cnt ≤ a.length
def ShAt (u : World) (ba r b1 b2 : Nat) (a b : List Int) (wr : World) : Prop := ∃ left cnt K, ShS u ba r b1 b2 a b left cnt K wr
end Go.Proofs.Ytoaciliojdaoaaa

/- Maps of one's own, by their entries in the order in which they were put. Condition: keys of a type that has a key's law. -/
namespace Go.Proofs.Ytoaciliojdaoaaa
open Go.RowKit Go.WideElems Go.MapKept
open Go.ChangeMaps (setBlock heap_setBlock_same heap_setBlock_other)
open Go.WideMaps (KeyLaw)

def MapAt (w : World) (b : Nat) (l : List (Value × Value)) : Prop := ∃ es clock, w.heap[b]? = some (.map es clock) ∧ es.toList.map (fun e => (e.key, e.val)) = l
theorem MapAt.lt {w : World} {b : Nat} {l : List (Value × Value)} (h : MapAt w b l) : b < w.heap.size := by
  obtain ⟨es, clock, hb, _⟩ := h
  exact (Array.getElem?_eq_some_iff.1 hb).1
theorem map_new (w : World) (b : Nat) (hb : b = w.heap.size) : MapAt (w.alloc (.map #[] 0)) b [] := by
  subst hb
  exact ⟨#[], 0, (MapKept.heap_alloc w _).1, rfl⟩
theorem MapAt.of {w w' : World} {b : Nat} {l : List (Value × Value)} (h : MapAt w b l) (e : w'.heap[b]? = w.heap[b]?) : MapAt w' b l := by
  obtain ⟨es, clock, hb, hl⟩ := h
  exact ⟨es, clock, e.trans hb, hl⟩
theorem MapAt.grew {w w' : World} {b : Nat} {l : List (Value × Value)} (h : MapAt w b l) (g : Grew w w') : MapAt w' b l := by
  obtain ⟨x, rfl⟩ := g
  exact h.of (more_block w x b h.lt)
theorem MapAt.kept {w w' : World} {b : Nat} {l : List (Value × Value)} {row : Option Nat} (h : MapAt w b l) (g : w.grownBy w' row) (hr : some b ≠ row) : MapAt w' b l := h.of (g.block b h.lt hr)
theorem MapAt.turns {w w' : World} {b g : Nat} {l : List (Value × Value)} (h : MapAt w b l) (k : Turns w w' g) (hg : b ≠ g) : MapAt w' b l := h.of (k.block b h.lt hg)
section
variable {P : Program} {k e t : TypeId} {w : World} {b : Nat} {l : List (Value × Value)}
/-- 'v, ok := m[k]': the key's own entry, or the zero value. -/
theorem map_look (K : KeyLaw P k) (ht : P.underlying t = some (.map k e)) (h : MapAt w b l) (hk : ∀ p ∈ l, ∃ kl, keyOf P k p.1 = some kl) {key z : Value} {kl : Lit} (hkey : keyOf P k key = some kl) (hz : (zeroValue e).run P w = .ok z w) :
    ((∀ p ∈ l, p.1 ≠ key) ∧ (Instr.lookup t (.map (some b)) key true).run P w = .ok (.tuple #[z, .bool false]) w) ∨ ∃ v, (key, v) ∈ l ∧ (Instr.lookup t (.map (some b)) key true).run P w = .ok (.tuple #[v, .bool true]) w := by
  obtain ⟨es, clock, hb, rfl⟩ := h
  have hall : ∀ x ∈ es.toList, ∃ kl, keyOf P k x.key = some kl := fun x hx => hk (x.key, x.val) (List.mem_map.2 ⟨x, hx, rfl⟩)
  rcases K.find w hkey es.toList hall with ⟨h1, h2⟩ | ⟨j, e0, h1, h2, h3⟩
  · refine Or.inl ⟨fun p hp => ?_, by simp [Instr.lookup, run_underlying ht, MapKept.run_getObj_map hb, K.check w _ hkey, h1, hz, Result.andThen]⟩
    obtain ⟨x, hx, rfl⟩ := List.mem_map.1 hp
    exact h2 x hx
  · refine Or.inr ⟨e0.val, List.mem_map.2 ⟨e0, List.mem_of_getElem? h2, by rw [h3]⟩, by simp [Instr.lookup, run_underlying ht, MapKept.run_getObj_map hb, K.check w _ hkey, h1, Result.andThen]⟩
/-- 'len(m)'. -/
theorem map_len (ht : P.underlying t = some (.map k e)) (h : MapAt w b l) (ty : TypeId) : (Builtin.len_ #[t] ty #[.map (some b)]).run P w = .ok (.int .i64 l.length) w := by
  obtain ⟨es, clock, hb, rfl⟩ := h
  simp [Builtin.len_, run_underlying ht, MapKept.run_getObj_map hb, goInt, Result.andThen]
/-- 'm[k] = v' at a key that is not there. -/
theorem map_put (K : KeyLaw P k) (ht : P.underlying t = some (.map k e)) (h : MapAt w b l) (hk : ∀ p ∈ l, ∃ kl, keyOf P k p.1 = some kl) {key val : Value} {kl : Lit} (hkey : keyOf P k key = some kl) (hno : ∀ p ∈ l, p.1 ≠ key) :
    ∃ w', (Instr.mapUpdate t (.map (some b)) key val).run P w = .ok () w' ∧ MapAt w' b (l ++ [(key, val)]) ∧ w.grownBy w' (some b) := by
  obtain ⟨es, clock, hb, rfl⟩ := h
  have hall : ∀ x ∈ es.toList, ∃ kl, keyOf P k x.key = some kl := fun x hx => hk (x.key, x.val) (List.mem_map.2 ⟨x, hx, rfl⟩)
  rcases K.find w hkey es.toList hall with ⟨h1, h2⟩ | ⟨j, e0, h1, h2, h3⟩
  · refine ⟨setBlock w b (.map (es.push ⟨key, val, clock⟩) (clock + 1)), by simp [Instr.mapUpdate, run_underlying ht, MapKept.run_getObj_map hb, K.check w false hkey, h1, MapKept.run_setObj_map _ hb, Result.andThen, setBlock], ⟨_, _, heap_setBlock_same hb _, by simp⟩, ⟨rfl, rfl, rfl, by simp [setBlock], fun i _ hi => heap_setBlock_other hb _ (fun e => hi (by rw [e]))⟩⟩
  · exact absurd h3 (hno (e0.key, e0.val) (List.mem_map.2 ⟨e0, List.mem_of_getElem? h2, rfl⟩))
end
theorem wpList_mput {P : Program} {w : World} {ops : Array Oper} {rest : List Oper} {o : Oper} {a : Act} {Q : Exit → Act → World → Prop} (hg : o.guard = none) (m x v : Operand) (t k e : TypeId) (hop : o.op = Op.mapUpdate t m x v)
    (K : KeyLaw P k) (ht : P.underlying t = some (.map k e)) (b : Nat) (l : List (Value × Value)) (hm : a.eval m = .map (some b)) (h : MapAt w b l) (hk : ∀ p ∈ l, ∃ kl, keyOf P k p.1 = some kl) (key val : Value) (kl : Lit) (hx : a.eval x = key) (hv : a.eval v = val)
    (hkey : keyOf P k key = some kl) (hno : ∀ p ∈ l, p.1 ≠ key)
    (hK : ∀ w', MapAt w' b (l ++ [(key, val)]) → w.grownBy w' (some b) → wpList P ops Q rest (a.put o.dst undef) w') : wpList P ops Q (o :: rest) a w := by
  refine wpList_plain hg fun K' hK' => ?_
  obtain ⟨w', hrun, r1, r2⟩ := map_put K ht h hk (val := val) hkey hno
  unfold Oper.wp
  simp [execOp, hop, hm, hx, hv, hrun, Result.andThen]
  exact hK' _ _ (hK w' r1 r2)
end Go.Proofs.Ytoaciliojdaoaaa

/- Maps of one's own from numbers to rows of numbers. Condition: numbers as they may be. -/
namespace Go.Proofs.Ytoaciliojdaoaaa
open Go.RowKit Go.WideElems Go.MapKept Go.Maps
open Go.ChangeMaps (setBlock heap_setBlock_same heap_setBlock_other)

section
variable {P : Program} {k e t : TypeId} {w : World} {b : Nat} {l : List (Value × Value)}
/-- 'm[k]': the key's own entry, or the zero value. -/
theorem mapI_look (K : Keyed P k) (ht : P.underlying t = some (.map k e)) (h : MapAt w b l) (hk : ∀ p ∈ l, ∃ kl, keyOf P k p.1 = some kl) {key z : Value} {kl : Lit} (hkey : keyOf P k key = some kl) (hz : (zeroValue e).run P w = .ok z w) :
    ((∀ p ∈ l, p.1 ≠ key) ∧ (Instr.lookup t (.map (some b)) key false).run P w = .ok z w) ∨ ∃ v, (key, v) ∈ l ∧ (Instr.lookup t (.map (some b)) key false).run P w = .ok v w := by
  obtain ⟨es, clock, hb, rfl⟩ := h
  have hall : ∀ x ∈ es.toList, ∃ kl, keyOf P k x.key = some kl := fun x hx => hk (x.key, x.val) (List.mem_map.2 ⟨x, hx, rfl⟩)
  rcases K.find w hkey es.toList hall with ⟨h1, h2⟩ | ⟨j, e0, h1, h2, h3⟩
  · refine Or.inl ⟨fun p hp => ?_, by simp [Instr.lookup, run_underlying ht, MapKept.run_getObj_map hb, K.check w _ hkey, h1, hz, Result.andThen]⟩
    obtain ⟨x, hx, rfl⟩ := List.mem_map.1 hp
    exact h2 x hx
  · exact Or.inr ⟨e0.val, List.mem_map.2 ⟨e0, List.mem_of_getElem? h2, by rw [h3]⟩, by simp [Instr.lookup, run_underlying ht, MapKept.run_getObj_map hb, K.check w _ hkey, h1, Result.andThen]⟩
/-- 'm[k] = v': at the key's own place, or behind all others. -/
theorem mapI_put (K : Keyed P k) (ht : P.underlying t = some (.map k e)) (h : MapAt w b l) (hk : ∀ p ∈ l, ∃ kl, keyOf P k p.1 = some kl) (hn : (l.map Prod.fst).Nodup) {key val : Value} {kl : Lit} (hkey : keyOf P k key = some kl) :
    ∃ w' l', (Instr.mapUpdate t (.map (some b)) key val).run P w = .ok () w' ∧ MapAt w' b l' ∧ w.grownBy w' (some b) ∧ w'.heap.size = w.heap.size ∧ (l'.map Prod.fst).Nodup ∧ ∀ p, p ∈ l' ↔ (p ∈ l ∧ p.1 ≠ key) ∨ p = (key, val) := by
  obtain ⟨es, clock, hb, rfl⟩ := h
  have hall : ∀ x ∈ es.toList, ∃ kl, keyOf P k x.key = some kl := fun x hx => hk (x.key, x.val) (List.mem_map.2 ⟨x, hx, rfl⟩)
  rcases K.find w hkey es.toList hall with ⟨h1, h2⟩ | ⟨j, e0, h1, h2, h3⟩
  · refine ⟨setBlock w b (.map (es.push ⟨key, val, clock⟩) (clock + 1)), _, by simp [Instr.mapUpdate, run_underlying ht, MapKept.run_getObj_map hb, K.check w false hkey, h1, MapKept.run_setObj_map _ hb, Result.andThen, setBlock], ⟨_, _, heap_setBlock_same hb _, rfl⟩, ⟨rfl, rfl, rfl, by simp [setBlock], fun i _ hi => heap_setBlock_other hb _ (fun e => hi (by rw [e]))⟩, by simp [setBlock], ?_, fun p => ?_⟩
    · rw [Array.toList_push, List.map_append, List.map_append, List.nodup_append]
      refine ⟨hn, by simp, fun x hx y hy e => ?_⟩
      simp at hy
      subst hy
      subst e
      obtain ⟨p, hp, e1⟩ := List.mem_map.1 hx
      obtain ⟨x, hx2, rfl⟩ := List.mem_map.1 hp
      exact h2 x hx2 e1
    · rw [Array.toList_push, List.map_append, List.mem_append]
      constructor
      · rintro (h | h)
        · obtain ⟨x, hx, rfl⟩ := List.mem_map.1 h
          exact Or.inl ⟨h, h2 x hx⟩
        · exact Or.inr (by simpa using h)
      · rintro (h | h)
        · exact Or.inl h.1
        · exact Or.inr (by simpa using h)
  · have hjl : j < es.toList.length := (List.getElem?_eq_some_iff.1 h2).1
    have h0 : es.toList[j] = e0 := (List.getElem?_eq_some_iff.1 h2).2
    have hmod : (es.modify j fun e => { e with key := key, val := val }).toList = es.toList.modify j (fun e => { e with key := key, val := val }) := by simp
    have hget : ∀ i, (es.toList.modify j fun e => { e with key := key, val := val })[i]? = if j = i then some { e0 with key := key, val := val } else es.toList[i]? := fun i => by
      rw [List.getElem?_modify]
      by_cases hij : j = i
      · subst hij; simp [h2]
      · simp [hij]
    have hne : ∀ i (hi : i < es.toList.length), i ≠ j → es.toList[i].key ≠ key := fun i hi hij hxk => by
      have hn2 := hn
      rw [List.map_map] at hn2
      unfold List.Nodup at hn2
      rw [List.pairwise_iff_getElem] at hn2
      rcases Nat.lt_or_gt_of_ne hij with h | h
      · have := hn2 i j (by simpa using hi) (by simpa using hjl) h
        simp only [List.getElem_map, Function.comp] at this
        rw [h0] at this
        exact this (by rw [hxk, h3])
      · have := hn2 j i (by simpa using hjl) (by simpa using hi) h
        simp only [List.getElem_map, Function.comp] at this
        rw [h0] at this
        exact this (by rw [hxk, h3])
    refine ⟨setBlock w b (.map (es.modify j fun e => { e with key := key, val := val }) clock), _, ?_, ⟨_, _, heap_setBlock_same hb _, rfl⟩, ⟨rfl, rfl, rfl, by simp [setBlock], fun i _ hi => heap_setBlock_other hb _ (fun e => hi (by rw [e]))⟩, by simp [setBlock], ?_, fun p => ?_⟩
    · have hj : es[j]? = some e0 := by simpa using h2
      have hs : (Instr.keyThatStays key key).run P w = .ok key w := K.stays w hkey
      simp [Instr.mapUpdate, run_underlying ht, MapKept.run_getObj_map hb, K.check w false hkey, h1, MapKept.run_setObj_map _ hb, Result.andThen, setBlock, hj, h3, hs]
    · have e : (((es.modify j fun e => { e with key := key, val := val }).toList.map fun e => (e.key, e.val)).map Prod.fst) = ((es.toList.map fun e => (e.key, e.val)).map Prod.fst) := by
        apply List.ext_getElem?
        intro i
        rw [hmod]
        simp only [List.getElem?_map, hget]
        by_cases hij : j = i
        · subst hij; simp [h2, h3]
        · simp [hij]
      rw [e]
      exact hn
    · rw [hmod, List.mem_map]
      constructor
      · rintro ⟨x, hx, rfl⟩
        obtain ⟨i, hi⟩ := List.mem_iff_getElem?.1 hx
        rw [hget] at hi
        by_cases hij : j = i
        · rw [if_pos hij] at hi
          injection hi with hi
          subst hi
          exact Or.inr rfl
        · rw [if_neg hij] at hi
          obtain ⟨hil, hix⟩ := List.getElem?_eq_some_iff.1 hi
          exact Or.inl ⟨List.mem_map.2 ⟨x, List.mem_of_getElem? hi, rfl⟩, by rw [← hix]; exact hne i hil (fun e => hij e.symm)⟩
      · rintro (⟨h, hk2⟩ | h)
        · obtain ⟨x, hx, rfl⟩ := List.mem_map.1 h
          obtain ⟨i, hi, rfl⟩ := List.mem_iff_getElem.1 hx
          refine ⟨es.toList[i], List.mem_iff_getElem?.2 ⟨i, ?_⟩, rfl⟩
          rw [hget, if_neg (fun e => ?_), List.getElem?_eq_getElem hi]
          subst e
          exact hk2 (by rw [h0]; exact h3)
        · subst h
          exact ⟨{ e0 with key := key, val := val }, List.mem_iff_getElem?.2 ⟨j, by rw [hget, if_pos rfl]⟩, rfl⟩
/-- 'delete(m, k)'. -/
theorem mapI_del (K : Keyed P k) (ht : P.underlying t = some (.map k e)) (h : MapAt w b l) (hk : ∀ p ∈ l, ∃ kl, keyOf P k p.1 = some kl) (hn : (l.map Prod.fst).Nodup) {key : Value} {kl : Lit} (hkey : keyOf P k key = some kl) (ty : TypeId) :
    ∃ w' l', (Builtin.delete_ #[t, k] ty #[.map (some b), key]).run P w = .ok (.tuple #[]) w' ∧ MapAt w' b l' ∧ w.grownBy w' (some b) ∧ w'.heap.size = w.heap.size ∧ (l'.map Prod.fst).Nodup ∧ ∀ p, p ∈ l' ↔ p ∈ l ∧ p.1 ≠ key := by
  obtain ⟨es, clock, hb, rfl⟩ := h
  have hall : ∀ x ∈ es.toList, ∃ kl, keyOf P k x.key = some kl := fun x hx => hk (x.key, x.val) (List.mem_map.2 ⟨x, hx, rfl⟩)
  rcases K.find w hkey es.toList hall with ⟨h1, h2⟩ | ⟨j, e0, h1, h2, h3⟩
  · refine ⟨setBlock w b (.map es clock), _, by simp [Builtin.delete_, run_underlying ht, MapKept.run_getObj_map hb, K.check w _ hkey, h1, MapKept.run_setObj_map _ hb, Result.andThen, setBlock], ⟨_, _, heap_setBlock_same hb _, rfl⟩, ⟨rfl, rfl, rfl, by simp [setBlock], fun i _ hi => heap_setBlock_other hb _ (fun e => hi (by rw [e]))⟩, by simp [setBlock], hn, fun p => ⟨fun hp => ⟨hp, ?_⟩, fun hp => hp.1⟩⟩
    obtain ⟨x, hx, rfl⟩ := List.mem_map.1 hp
    exact h2 x hx
  · have hjl : j < es.toList.length := (List.getElem?_eq_some_iff.1 h2).1
    have hjs : j < es.size := by simpa using hjl
    have hsub : (es.eraseIdxIfInBounds j).toList = es.toList.eraseIdx j := by
      unfold Array.eraseIdxIfInBounds
      rw [dif_pos hjs]
      simp
    have h0 : es.toList[j] = e0 := (List.getElem?_eq_some_iff.1 h2).2
    refine ⟨setBlock w b (.map (es.eraseIdxIfInBounds j) clock), _, by simp [Builtin.delete_, run_underlying ht, MapKept.run_getObj_map hb, K.check w _ hkey, h1, MapKept.run_setObj_map _ hb, Result.andThen, setBlock], ⟨_, _, heap_setBlock_same hb _, rfl⟩, ⟨rfl, rfl, rfl, by simp [setBlock], fun i _ hi => heap_setBlock_other hb _ (fun e => hi (by rw [e]))⟩, by simp [setBlock], ?_, fun p => ?_⟩
    · rw [hsub]
      refine List.Sublist.nodup ?_ hn
      exact (((List.eraseIdx_sublist es.toList j).map _).map _)
    · rw [hsub]
      have hn2 := hn
      rw [List.map_map] at hn2
      unfold List.Nodup at hn2
      rw [List.pairwise_iff_getElem] at hn2
      constructor
      · intro hp
        obtain ⟨x, hx, rfl⟩ := List.mem_map.1 hp
        refine ⟨List.mem_map.2 ⟨x, (List.eraseIdx_sublist _ _).subset hx, rfl⟩, fun hxk => ?_⟩
        obtain ⟨i, hij, hi⟩ := List.mem_eraseIdx_iff_getElem?.1 hx
        have hil := (List.getElem?_eq_some_iff.1 hi).1
        have hx2 : es.toList[i] = x := (List.getElem?_eq_some_iff.1 hi).2
        rcases Nat.lt_or_gt_of_ne hij with h | h
        · have := hn2 i j (by simpa using hil) (by simpa using hjl) h
          simp only [List.getElem_map, Function.comp] at this
          rw [hx2, h0] at this
          exact this (by simp only at hxk; rw [hxk, h3])
        · have := hn2 j i (by simpa using hjl) (by simpa using hil) h
          simp only [List.getElem_map, Function.comp] at this
          rw [hx2, h0] at this
          exact this (by simp only at hxk; rw [hxk, h3])
      · rintro ⟨hp, hne⟩
        obtain ⟨x, hx, rfl⟩ := List.mem_map.1 hp
        refine List.mem_map.2 ⟨x, ?_, rfl⟩
        obtain ⟨i, hi, rfl⟩ := List.mem_iff_getElem.1 hx
        refine List.mem_eraseIdx_iff_getElem?.2 ⟨i, fun e => ?_, List.getElem?_eq_getElem hi⟩
        subst e
        rw [h0] at hne
        exact hne h3
end
end Go.Proofs.Ytoaciliojdaoaaa

/- Layer 21: which edges hang together: plain mathematics. No condition. -/
namespace Go.Proofs.Ytoaciliojdaoaaa

def edgeAt (h : List (List Int)) (i : Nat) : List Int := h.getD i []
theorem edgeAt_eq {h : List (List Int)} {i : Nat} (hi : i < h.length) : edgeAt h i = h[i] := by
  unfold edgeAt
  rw [List.getD_eq_getElem?_getD, List.getElem?_eq_getElem hi]
  rfl
def sharesB (h : List (List Int)) (i k : Nat) : Bool := !(sharedI (edgeAt h i) (edgeAt h k)).isEmpty
theorem sharesB_iff (h : List (List Int)) (i k : Nat) : sharesB h i k = true ↔ ∃ v, v ∈ edgeAt h i ∧ v ∈ edgeAt h k := by
  unfold sharesB
  constructor
  · intro hs
    cases hl : sharedI (edgeAt h i) (edgeAt h k) with
    | nil => rw [hl] at hs; simp at hs
    | cons v l => exact ⟨v, (sharedI_mem _ _ v).1 (by rw [hl]; simp)⟩
  · rintro ⟨v, hv⟩
    have := (sharedI_mem _ _ v).2 hv
    cases hl : sharedI (edgeAt h i) (edgeAt h k) with
    | nil => rw [hl] at this; cases this
    | cons w l => rfl
def pairR (h : List (List Int)) (i k : Nat) : List (Int × Int) := ((List.range k).filter fun j => sharesB h i j).map fun (j : Nat) => ((i : Int), (j : Int))
def pairU (h : List (List Int)) (i : Nat) : List (Int × Int) := ((List.range i).map fun i => pairR h i h.length).flatten
theorem pairR_in {h : List (List Int)} {i k : Nat} (hs : sharesB h i k = true) : pairR h i (k + 1) = pairR h i k ++ [((i : Int), (k : Int))] := by
  unfold pairR
  rw [List.range_succ, List.filter_append, List.map_append]
  simp [hs]
theorem pairR_out {h : List (List Int)} {i k : Nat} (hs : sharesB h i k = false) : pairR h i (k + 1) = pairR h i k := by
  unfold pairR
  rw [List.range_succ, List.filter_append, List.map_append]
  simp [hs]
theorem pairU_succ (h : List (List Int)) (i : Nat) : pairU h (i + 1) = pairU h i ++ pairR h i h.length := by
  unfold pairU
  rw [List.range_succ, List.map_append, List.flatten_append]
  simp
theorem pairR_zero (h : List (List Int)) (i : Nat) : pairR h i 0 = [] := rfl
theorem pairU_zero (h : List (List Int)) : pairU h 0 = [] := rfl
theorem pairR_mem {h : List (List Int)} {i k : Nat} {p : Int × Int} : p ∈ pairR h i k ↔ ∃ j, j < k ∧ sharesB h i j = true ∧ p = ((i : Int), (j : Int)) := by
  unfold pairR
  rw [List.mem_map]
  constructor
  · rintro ⟨j, hj, rfl⟩
    rw [List.mem_filter, List.mem_range] at hj
    exact ⟨j, hj.1, hj.2, rfl⟩
  · rintro ⟨j, hj, hs, rfl⟩
    exact ⟨j, by rw [List.mem_filter, List.mem_range]; exact ⟨hj, hs⟩, rfl⟩
theorem pairU_mem {h : List (List Int)} {n : Nat} {p : Int × Int} : p ∈ pairU h n ↔ ∃ i j, i < n ∧ j < h.length ∧ sharesB h i j = true ∧ p = ((i : Int), (j : Int)) := by
  unfold pairU
  rw [List.mem_flatten]
  constructor
  · rintro ⟨l, hl, hp⟩
    obtain ⟨i, hi, rfl⟩ := List.mem_map.1 hl
    obtain ⟨j, h1, h2, h3⟩ := pairR_mem.1 hp
    exact ⟨i, j, by simpa using hi, h1, h2, h3⟩
  · rintro ⟨i, j, h1, h2, h3, h4⟩
    exact ⟨_, List.mem_map.2 ⟨i, by simpa using h1, rfl⟩, pairR_mem.2 ⟨j, h2, h3, h4⟩⟩
/-- The least edge of those that hang together with one. -/
def partR (h : List (List Int)) : Nat → Nat := foldR h.length (pairU h h.length)
theorem partR_least (h : List (List Int)) : Least h.length (partR h) := foldR_least _ _
theorem partR_shares {h : List (List Int)} {i k : Nat} (hi : i < h.length) (hk : k < h.length) (v : Int) (h1 : v ∈ edgeAt h i) (h2 : v ∈ edgeAt h k) : partR h i = partR h k := by
  have := foldR_pair h.length (pairU h h.length) ((i : Int), (k : Int)) (pairU_mem.2 ⟨i, k, hi, hk, (sharesB_iff h i k).2 ⟨v, h1, h2⟩, rfl⟩) (by unfold inB; simp only; omega)
  simpa [partR] using this
/-- What holds of all that share with one of which it holds, holds of all that hang together with it. -/
theorem partR_closed {h : List (List Int)} {S : Nat → Prop} (hS : ∀ i k v, i < h.length → k < h.length → S i → v ∈ edgeAt h i → v ∈ edgeAt h k → S k) {i j : Nat} (hij : partR h i = partR h j) (hi : S i) : S j := by
  have hc := foldR_conn h.length (pairU h h.length) i j hij
  have key : ∀ a b, Conn h.length (pairU h h.length) a b → (S a ↔ S b) := by
    intro a b hab
    induction hab with
    | refl i => exact Iff.rfl
    | pair p hp hb =>
      obtain ⟨i, k, h1, h2, h3, rfl⟩ := pairU_mem.1 hp
      obtain ⟨v, hv1, hv2⟩ := (sharesB_iff h i k).1 h3
      simp only [Int.toNat_natCast]
      exact ⟨fun hs => hS i k v h1 h2 hs hv1 hv2, fun hs => hS k i v h2 h1 hs hv2 hv1⟩
    | symm _ ih => exact ih.symm
    | trans _ _ ih ih' => exact ih.trans ih'
  exact (key i j hc).1 hi
/-- Edges that hang together, all of them, in order. -/
theorem part_all {h : List (List Int)} {f : Nat} {part : List Nat} (hff : partR h f = f) (hfp : f ∈ part) (hp : ∀ p ∈ part, p < h.length ∧ partR h p = f)
    (hc : ∀ p ∈ part, ∀ v ∈ edgeAt h p, ∀ k, k < h.length → v ∈ edgeAt h k → partR h k < f ∨ k ∈ part) : ∀ k, k < h.length → (k ∈ part ↔ partR h k = f) := by
  intro k hk
  refine ⟨fun h1 => (hp k h1).2, fun h1 => ?_⟩
  refine partR_closed (S := fun j => j ∈ part) (fun i j v hi hj hs hv1 hv2 => ?_) (hff.trans h1.symm) hfp
  rcases hc i hs v hv1 j hj hv2 with h2 | h2
  · have h3 := partR_shares hi hj v hv1 hv2
    have h4 := (hp i hs).2
    omega
  · exact h2
theorem clsL_mem {n p k : Nat} {r : Nat → Nat} : k ∈ clsL n r p ↔ k < n ∧ r k = p := by
  unfold clsL
  simp
theorem clsL_pw (n p : Nat) (r : Nat → Nat) : (clsL n r p).Pairwise (· < ·) := List.Pairwise.filter _ List.pairwise_lt_range
/-- Numbers sorted, that are a class. -/
theorem sort_class {n f : Nat} {r : Nat → Nat} {part : List Nat} (hn : part.Nodup) (h : ∀ k, k ∈ part ↔ k < n ∧ r k = f) : sortI (part.map fun (a : Nat) => (a : Int)) = (clsL n r f).map fun (a : Nat) => (a : Int) := by
  have h1 : Rising ((clsL n r f).map fun (a : Nat) => (a : Int)) := by
    unfold Rising
    rw [List.pairwise_map]
    exact (clsL_pw n f r).imp fun {a b} h => by omega
  refine (sortI_uniq ?_ h1.le).symm
  refine (List.perm_ext_iff_of_nodup h1.nodup ?_).2 fun x => ?_
  · unfold List.Nodup at hn ⊢
    rw [List.pairwise_map]
    exact hn.imp fun {a b} h e => h (by omega)
  · rw [List.mem_map, List.mem_map]
    constructor
    · rintro ⟨k, hk, rfl⟩
      exact ⟨k, (h k).2 (clsL_mem.1 hk), rfl⟩
    · rintro ⟨k, hk, rfl⟩
      exact ⟨k, clsL_mem.2 ((h k).1 hk), rfl⟩
end Go.Proofs.Ytoaciliojdaoaaa

/- Layer 21: the edges that have a vertex: a map of rows of one's own, that is filled. Condition: no more than a million numbers. -/
namespace Go.Proofs.Ytoaciliojdaoaaa
open Go.RowKit Go.Maps
attribute [local go_sem] more_cell more_frozen more_more more_setCell more_of_drew more_of_drewN lt_more le_more past_cell past_cell2 past_frozen past_frozen2 past_setCell past_setCell2 mid_cell mid_frozen mid_setCell
attribute [local go_sem ↓] Go.wp_at_zero Go.wp_at_succ

structure WithM (w : World) (mb base : Nat) (l : List (Value × Value)) (F : Int → List Nat) : Prop where
  map : MapAt w mb l
  nodup : (l.map Prod.fst).Nodup
  rows : ∀ p ∈ l, ∃ x, wfI x ∧ p.1 = .int .i64 x ∧ ∃ B c, p.2 = .slice B (F x).length c ∧ w.ownsRow base 3 1 p.2 (F x).length (nL (F x))
  none : ∀ x, (∀ p ∈ l, p.1 ≠ .int .i64 x) → F x = []
  apart : ∀ p ∈ l, ∀ q ∈ l, p.1 ≠ q.1 → ∀ k, p.2.ownBlock = some k → q.2.ownBlock ≠ some k
theorem WithM.keyed {w : World} {mb base : Nat} {l : List (Value × Value)} {F : Int → List Nat} (h : WithM w mb base l F) : ∀ p ∈ l, ∃ kl, keyOf Try.prog 3 p.1 = some kl := fun p hp => by
  obtain ⟨x, hx, e, _⟩ := h.rows p hp
  rw [e]
  exact ⟨_, key_int hx⟩
theorem zero_ints (w : World) : (zeroValue 30).run Try.prog w = .ok (.slice none 0 0) w := by kernel_rfl
/-- What is found at a key. -/
structure Found21 (w : World) (base : Nat) (l : List (Value × Value)) (x : Int) (B : Option Addr) (n c : Nat) (L : List Nat) : Prop where
  own : w.ownsRow base 3 1 (.slice B n c) n (nL L)
  len : n = L.length
  there : (.int .i64 x, .slice B n c) ∈ l ∨ ((∀ p ∈ l, p.1 ≠ .int .i64 x) ∧ Value.slice B n c = .slice none 0 0)
theorem WithM.grew {w w' : World} {mb base : Nat} {l : List (Value × Value)} {F : Int → List Nat} (h : WithM w mb base l F) (g : Grew w w') : WithM w' mb base l F :=
  ⟨h.map.grew g, h.nodup, fun p hp => by
    obtain ⟨x, hx, e, B, c, e2, hr⟩ := h.rows p hp
    exact ⟨x, hx, e, B, c, e2, own_grewU hr g⟩, h.none, h.apart⟩
theorem withM_new (w : World) (mb base : Nat) (hb : mb = w.heap.size) : WithM (w.alloc (.map #[] 0)) mb base [] (fun _ => []) :=
  ⟨map_new w mb hb, List.nodup_nil, fun p hp => (by cases hp), fun _ _ => rfl, fun p hp => (by cases hp)⟩
end Go.Proofs.Ytoaciliojdaoaaa

/- Layer 21: all edges that hang together with one, by the program. Condition: no more than a million numbers. -/
namespace Go.Proofs.Ytoaciliojdaoaaa
open Go.RowKit Go.Maps
attribute [local go_sem] more_cell more_frozen more_more more_setCell more_of_drew more_of_drewN lt_more le_more past_cell past_cell2 past_frozen past_frozen2 past_setCell past_setCell2 mid_cell mid_frozen mid_setCell
attribute [local go_sem ↓] Go.wp_at_zero Go.wp_at_succ

/-- Truths in a block. -/
def bsV (n : Nat) (f : Nat → Bool) : Array Value := ((List.range n).map fun i => Value.bool (f i)).toArray
theorem bsV_at (n : Nat) (f : Nat → Bool) (i : Nat) (h : i < n) : (bsV n f)[i]? = some (.bool (f i)) := by
  unfold bsV
  simp [h]
theorem bsV_set (n : Nat) (f : Nat → Bool) (a : Nat) (v : Bool) : (bsV n f).setIfInBounds a (.bool v) = bsV n (fun i => if i = a then v else f i) := by
  apply Array.ext_getElem?
  intro i
  rw [Array.getElem?_setIfInBounds]
  unfold bsV
  by_cases h : i < n
  · by_cases e : a = i
    · subst e; simp [h]
    · rw [if_neg e]; simp [h]; exact fun x => absurd x.symm e
  · by_cases e : a = i
    · subst e; simp [h]
    · rw [if_neg e]; simp [h]
theorem bsV_made (n : Nat) : madeCells #[.bool false] n = bsV n (fun _ => false) := by
  apply Array.ext'
  rw [toList_madeCells_one]
  unfold bsV
  simp only []
  apply List.ext_getElem?
  intro i
  by_cases h : i < n
  · simp [h]
  · simp [h]
theorem neBI : (3 : TypeId) ≠ 4 := by decide
/-- The map, as it is read: rows of numbers, wherever. -/
structure WithR (w : World) (mb : Nat) (l : List (Value × Value)) (F : Int → List Nat) : Prop where
  map : MapAt w mb l
  nodup : (l.map Prod.fst).Nodup
  rows : ∀ p ∈ l, ∃ x, wfI x ∧ p.1 = .int .i64 x ∧ ∃ B c, p.2 = .slice B (F x).length c ∧ TRow 0 w 3 B (nL (F x))
  lacks : ∀ x, (∀ p ∈ l, p.1 ≠ .int .i64 x) → F x = []
theorem WithM.read {w : World} {mb base : Nat} {l : List (Value × Value)} {F : Int → List Nat} (h : WithM w mb base l F) : WithR w mb l F :=
  ⟨h.map, h.nodup, fun p hp => by
    obtain ⟨x, hx, e, B, c, e2, hr⟩ := h.rows p hp
    rw [e2] at hr
    exact ⟨x, hx, e, B, c, e2, (TRow.own hr).low (Nat.zero_le _)⟩, h.none⟩
theorem WithR.keyed {w : World} {mb : Nat} {l : List (Value × Value)} {F : Int → List Nat} (h : WithR w mb l F) : ∀ p ∈ l, ∃ kl, keyOf Try.prog 3 p.1 = some kl := fun p hp => by
  obtain ⟨x, hx, e, _⟩ := h.rows p hp
  rw [e]
  exact ⟨_, key_int hx⟩
theorem WithR.turn {w w' : World} {mb : Nat} {l : List (Value × Value)} {F : Int → List Nat} (h : WithR w mb l F) (hm : w'.heap[mb]? = w.heap[mb]?) (hr : ∀ (b : Nat) (cur : Array Value), w.heap[b]? = some (.cells cur 3 (0, 0)) → b ≠ mb → (∃ p ∈ l, ∃ B n c, p.2 = .slice (some B) n c ∧ B.block = b) → w'.heap[b]? = w.heap[b]?) : WithR w' mb l F :=
  ⟨h.map.of hm, h.nodup, fun p hp => (by
    obtain ⟨x, hx, e, B, c, e2, ht⟩ := h.rows p hp
    refine ⟨x, hx, e, B, c, e2, ?_⟩
    rcases ht with ht | ⟨b, o, cur, rfl, hb0, hh, hc⟩
    · exact Or.inl ht
    · refine Or.inr ⟨b, o, cur, rfl, hb0, ?_, hc⟩
      rw [hr b cur hh (fun e' => ?_) ⟨p, hp, ⟨b, o, none⟩, _, _, e2, rfl⟩]
      · exact hh
      · obtain ⟨es, clock, hb, _⟩ := h.map
        rw [← e', hh] at hb
        exact absurd hb (by simp)), h.lacks⟩
theorem WithR.grew {w w' : World} {mb : Nat} {l : List (Value × Value)} {F : Int → List Nat} (h : WithR w mb l F) (g : Grew w w') : WithR w' mb l F := by
  obtain ⟨x, rfl⟩ := g
  exact h.turn (more_block w x mb h.map.lt) fun b cur hh _ _ => more_block w x b (heap_lt hh)
/-- Truths are set beside it. -/
theorem WithR.set {w : World} {mb g i : Nat} {cs : Array Value} {l : List (Value × Value)} {F : Int → List Nat} (h : WithR w mb l F) (hb : Blok w g 4 cs) (v : Value) : WithR (w.setCell ⟨g, i, none⟩ v) mb l F := by
  have k := (Turns.refl w g).set i v
  refine h.turn (k.block mb h.map.lt fun e => ?_) fun b cur hh _ _ => k.block b (heap_lt hh) fun e => ?_
  · obtain ⟨es, clock, hm, _⟩ := h.map
    unfold Blok at hb
    rw [← e, hm] at hb
    cases hb
  · unfold Blok at hb
    rw [← e, hh] at hb
    injection hb with hb
    injection hb with _ h2 _
    exact neBI h2
/-- A row of one's own, made behind all of the map's, grows. -/
theorem WithR.kept {w w' : World} {mb base n : Nat} {v : Value} {xs : List Value} {l : List (Value × Value)} {F : Int → List Nat} (h : WithR w mb l F) (hlow : ∀ p ∈ l, ∀ B n c, p.2 = .slice (some B) n c → B.block < base) (ho : w.ownsRow base 3 1 v n xs) (g : w.grownBy w' v.ownBlock) : WithR w' mb l F := by
  refine h.turn (g.block mb h.map.lt fun e => ?_) fun b cur hh _ hp => g.block b (heap_lt hh) fun e => ?_
  · rcases ho.2 with ⟨rfl, _⟩ | ⟨q, cap, cur, rfl, _, hh, _⟩
    · cases e
    · simp [Value.ownBlock] at e
      subst e
      obtain ⟨es, clock, hm, _⟩ := h.map
      rw [hm] at hh
      cases hh
  · obtain ⟨p, hp, B, n2, c, e2, rfl⟩ := hp
    have h1 := hlow p hp B n2 c e2
    have h2 := own_base ho _ e.symm
    omega
theorem WithR.rowOf {w : World} {mb n c : Nat} {B : Option Addr} {l : List (Value × Value)} {F : Int → List Nat} (h : WithR w mb l F) {x : Int} (hp : (.int .i64 x, .slice B n c) ∈ l ∨ F x = []) : Row w B (nL (F x)) := by
  rcases hp with hp | e
  · obtain ⟨y, hy, e, B2, c2, e2, ho⟩ := h.rows _ hp
    injection e with _ e
    subst e
    injection e2 with e2 _ _
    subst e2
    exact ho.plain
  · rw [e]
    exact Or.inl rfl
end Go.Proofs.Ytoaciliojdaoaaa

/- Layer 21: all edges that hang together with one, step by step. Condition: no more than a million numbers. -/
namespace Go.Proofs.Ytoaciliojdaoaaa
open Go.RowKit Go.Maps

theorem Keep2.map {w w' w'' : World} {g h : Nat} (a : Keep2 w w' g h) (k : w'.grownBy w'' (some g)) : Keep2 w w'' g h :=
  ⟨k.os.trans a.os, k.tape.trans a.tape, k.output.trans a.output, Nat.le_trans a.size k.size, fun i hi n1 n2 => (k.block i (Nat.lt_of_lt_of_le hi a.size) (fun e => n1 (by injection e))).trans (a.block i hi n1 n2)⟩
def okI (h : List (List Int)) (f : Nat) (part : List Nat) (k : Nat) : Prop := partR h k < f ∨ k ∈ part
/-- What has been told of a part, as far as it goes. -/
structure FlS (h : List (List Int)) (n f mb gt : Nat) (w0 w : World) (l : List (Value × Value)) (F : Int → List Nat) (tk : Nat → Bool) (part : List Nat) (A : Option Addr) (c : Nat) (wr : World) : Prop where
  grew : Grew w0 wr
  keep : Keep2 w wr mb gt
  rows : WithR wr mb l F
  low : ∀ p ∈ l, ∀ B m c, p.2 = .slice (some B) m c → B.block < w.heap.size
  taken : Blok wr gt 4 (bsV n tk)
  own : wr.ownsRow w.heap.size 3 1 (.slice A part.length c) part.length (nL part)
  i1 : ∀ k, k < n → (tk k = true ↔ okI h f part k)
  nodup : part.Nodup
  mem : ∀ p ∈ part, p < n ∧ partR h p = f
  i3 : ∀ x, wfI x → (F x = [] ∧ ∀ k, k < n → x ∈ edgeAt h k → okI h f part k) ∨ (∀ k, k ∈ F x ↔ k < n ∧ x ∈ edgeAt h k)
  short : ∀ x, (F x).length ≤ 1000000
section
variable {h : List (List Int)} {n f mb gt : Nat} {w0 w wr : World} {l : List (Value × Value)} {F : Int → List Nat} {tk : Nat → Bool} {part : List Nat} {A : Option Addr} {c : Nat}
theorem FlS.few (s : FlS h n f mb gt w0 w l F tk part A c wr) : part.length ≤ n := by
  have := s.nodup.length_le_of_subset (l₂ := List.range n) fun p hp => List.mem_range.2 (s.mem p hp).1
  simpa using this
theorem okI.more {k m : Nat} (h1 : okI h f part k) : okI h f (part ++ [m]) k := h1.imp id fun h2 => List.mem_append_left _ h2
theorem FlS.size (s : FlS h n f mb gt w0 w l F tk part A c wr) (hgt : gt < w.heap.size) : gt < wr.heap.size := Nat.lt_of_lt_of_le hgt s.keep.size
/-- One more edge is taken. -/
theorem FlS.take (s : FlS h n f mb gt w0 w l F tk part A c wr) (hgt : gt < w.heap.size) (h0 : w0.heap.size ≤ gt) (hw : w0.heap.size ≤ w.heap.size) {k : Nat} (hk : k < n) (hr : partR h k = f) (hnk : tk k = false) (o : Obj) {A' : Option Addr} {c' : Nat} {w' : World}
    (ho : w'.ownsRow w.heap.size 3 1 (.slice A' (part.length + 1) c') (part.length + 1) (nL part ++ [.int .i64 k])) (hg : ((wr.setCell ⟨gt, k, none⟩ (.bool true)).alloc o).grownBy w' (Value.slice A part.length c).ownBlock) :
    FlS h n f mb gt w0 w l F (fun i => if i = k then true else tk i) (part ++ [k]) A' c' w' := by
  have hnp : k ∉ part := fun hm => by
    have := (s.i1 k hk).2 (Or.inr hm)
    rw [hnk] at this
    cases this
  have hrow : ∀ i, (Value.slice A part.length c).ownBlock = some i → w.heap.size ≤ i := own_base s.own
  have ho2 : (wr.setCell ⟨gt, k, none⟩ (.bool true)).ownsRow w.heap.size 3 1 (.slice A part.length c) part.length (nL part) := own_aside2 (p := ⟨gt, k, none⟩) s.own (fun q hq => by have := hrow q hq; show q ≠ gt; omega) _
  have e1 : (part ++ [k]).length = part.length + 1 := by simp
  refine ⟨((s.grew.setCell (a := ⟨gt, k, none⟩) h0 _).alloc o).grown hg fun i hi => Nat.le_trans hw (hrow i hi), ((s.keep.set ⟨gt, k, none⟩ (Or.inr rfl) _).on ((Grew.refl _).alloc o)).grown hg hrow, ?_, s.low, ?_, ?_, fun i hi => ?_, ?_, fun p hp => ?_, fun x hx => ?_, s.short⟩
  · exact ((s.rows.set s.taken (.bool true)).grew ((Grew.refl _).alloc o)).kept (base := w.heap.size) s.low (own_alloc ho2 o) hg
  · have := ((s.taken.set k (.bool true)).alloc o).grown hg (fun e => by have := hrow _ e; omega)
    rw [bsV_set] at this
    exact this
  · rw [e1, ← nL_snoc]
    exact ho
  · by_cases e : i = k
    · subst e
      simp only [if_pos trivial, true_iff]
      exact Or.inr (by simp)
    · simp only [if_neg e]
      rw [s.i1 i hi]
      refine ⟨okI.more, fun h2 => h2.imp id fun h3 => ?_⟩
      rcases List.mem_append.1 h3 with h3 | h3
      · exact h3
      · exact absurd (List.mem_singleton.1 h3) e
  · rw [List.nodup_append]
    exact ⟨s.nodup, by simp, fun a ha b hb e => by simp at hb; subst hb; subst e; exact hnp ha⟩
  · rcases List.mem_append.1 hp with hp | hp
    · exact s.mem p hp
    · rw [List.mem_singleton.1 hp]; exact ⟨hk, hr⟩
  · rcases s.i3 x hx with ⟨h1, h2⟩ | h1
    · exact Or.inl ⟨h1, fun i hi hxi => (h2 i hi hxi).more⟩
    · exact Or.inr h1
/-- A vertex is struck. -/
theorem FlS.del (s : FlS h n f mb gt w0 w l F tk part A c wr) (hm0 : w0.heap.size ≤ mb) (hmw : mb < w.heap.size) {x : Int} (hall : ∀ k, k < n → x ∈ edgeAt h k → okI h f part k) {l' : List (Value × Value)} {w' : World} (hg : wr.grownBy w' (some mb)) (hsub : ∀ p ∈ l', p ∈ l) (hr : WithR w' mb l' (fun y => if y = x then [] else F y)) (hne : mb ≠ gt) :
    FlS h n f mb gt w0 w l' (fun y => if y = x then [] else F y) tk part A c w' := by
  have hrow : ∀ i, (Value.slice A part.length c).ownBlock = some i → w.heap.size ≤ i := own_base s.own
  refine ⟨s.grew.grown hg (fun k hk => by injection hk with hk; omega), s.keep.map hg, hr, fun p hp => s.low p (hsub p hp), s.taken.grown hg (fun e => by injection e with e; exact hne e), own_grown s.own hg (fun k hk e => by injection e with e; have := hrow k hk; omega), s.i1, s.nodup, s.mem, fun y hy => ?_, fun y => (by split; exact Nat.zero_le _; exact s.short y)⟩
  by_cases e : y = x
  · subst e
    exact Or.inl ⟨if_pos rfl, hall⟩
  · rcases s.i3 y hy with ⟨h1, h2⟩ | h1
    · exact Or.inl ⟨by rw [if_neg e]; exact h1, h2⟩
    · exact Or.inr (by simp only [if_neg e]; exact h1)
/-- All of a vertex' edges are there, once those that the map tells are. -/
theorem FlS.closed (s : FlS h n f mb gt w0 w l F tk part A c wr) {x : Int} (hx : wfI x) (hall : ∀ k ∈ F x, okI h f part k) : ∀ k, k < n → x ∈ edgeAt h k → okI h f part k := by
  intro k hk hxk
  rcases s.i3 x hx with ⟨_, h2⟩ | h1
  · exact h2 k hk hxk
  · exact hall k ((h1 k).2 ⟨hk, hxk⟩)
theorem FlS.there (s : FlS h n f mb gt w0 w l F tk part A c wr) {x : Int} (hx : wfI x) {k : Nat} (hk : k ∈ F x) : k < n ∧ x ∈ edgeAt h k := by
  rcases s.i3 x hx with ⟨h1, _⟩ | h1
  · rw [h1] at hk; cases hk
  · exact (h1 k).1 hk
theorem FlS.on {w' : World} (s : FlS h n f mb gt w0 w l F tk part A c wr) (g : Grew wr w') : FlS h n f mb gt w0 w l F tk part A c w' :=
  ⟨s.grew.trans g, s.keep.on g, s.rows.grew g, s.low, s.taken.grew g, own_grewU s.own g, s.i1, s.nodup, s.mem, s.i3, s.short⟩
end
end Go.Proofs.Ytoaciliojdaoaaa

/- Layer 21: all edges that hang together with one, by the program: the walk. Condition: no more than a thousand edges. -/
namespace Go.Proofs.Ytoaciliojdaoaaa
open Go.RowKit Go.Maps
attribute [local go_sem] more_cell more_frozen more_more more_setCell more_of_drew more_of_drewN lt_more le_more past_cell past_cell2 past_frozen past_frozen2 past_setCell past_setCell2 mid_cell mid_frozen mid_setCell
attribute [local go_sem ↓] Go.wp_at_zero Go.wp_at_succ

section
variable {w : World} {ops : Array Oper} {rest : List Oper} {o : Oper} {a : Act} {Q : Exit → Act → World → Prop} {mb : Nat} {l : List (Value × Value)} {F : Int → List Nat}
end
/-- All of a part has come. -/
structure FloodF (h : List (List Int)) (n f mb gt : Nat) (w0 w : World) (l : List (Value × Value)) (e : Ending) (w' : World) : Prop where
  ends : ∃ B c l' F' tk', e = .returned (.slice B (clsL n (partR h) f).length c) ∧ Grew w0 w' ∧ Keep2 w w' mb gt ∧ WithR w' mb l' F' ∧ (∀ p ∈ l', p ∈ l) ∧ Blok w' gt 4 (bsV n tk') ∧
    w'.ownsRow w.heap.size 3 1 (.slice B (clsL n (partR h) f).length c) (clsL n (partR h) f).length (nL (clsL n (partR h) f)) ∧ (∀ k, k < n → (tk' k = true ↔ partR h k < f + 1)) ∧ (∀ x, (F' x).length ≤ 1000000) ∧
    ∀ x, wfI x → (F' x = [] ∧ ∀ k, k < n → x ∈ edgeAt h k → partR h k < f + 1) ∨ (∀ k, k ∈ F' x ↔ k < n ∧ x ∈ edgeAt h k)
def FlO (h : List (List Int)) (n f mb gt : Nat) (w0 w : World) (l0 : List (Value × Value)) (v i : Value) (wr : World) : Prop :=
  ∃ (a : Nat) (part : List Nat) (A : Option Addr) (c : Nat) (l : List (Value × Value)) (F : Int → List Nat) (tk : Nat → Bool), v = .slice A part.length c ∧ i = .int .i64 a ∧ a ≤ part.length ∧ f ∈ part ∧ (∀ p ∈ l, p ∈ l0) ∧ FlS h n f mb gt w0 w l F tk part A c wr ∧
    ∀ (j p : Nat), j < a → part[j]? = some p → ∀ x ∈ edgeAt h p, F x = []
def FlM (h : List (List Int)) (n f mb gt : Nat) (w0 w : World) (l0 : List (Value × Value)) (a p : Nat) (v i : Value) (wr : World) : Prop :=
  ∃ (q : Nat) (part : List Nat) (A : Option Addr) (c : Nat) (l : List (Value × Value)) (F : Int → List Nat) (tk : Nat → Bool), v = .slice A part.length c ∧ i = .int .i64 q ∧ q ≤ (edgeAt h p).length ∧ f ∈ part ∧ part[a]? = some p ∧ (∀ p ∈ l, p ∈ l0) ∧ FlS h n f mb gt w0 w l F tk part A c wr ∧
    (∀ (j p : Nat), j < a → part[j]? = some p → ∀ x ∈ edgeAt h p, F x = []) ∧ ∀ x ∈ (edgeAt h p).take q, F x = []
def FlI (h : List (List Int)) (n f mb gt : Nat) (w0 w : World) (a p : Nat) (l : List (Value × Value)) (F : Int → List Nat) (x : Int) (v i : Value) (wr : World) : Prop :=
  ∃ (s : Nat) (part : List Nat) (A : Option Addr) (c : Nat) (tk : Nat → Bool), v = .slice A part.length c ∧ i = .int .i64 s ∧ s ≤ (F x).length ∧ f ∈ part ∧ part[a]? = some p ∧ FlS h n f mb gt w0 w l F tk part A c wr ∧
    (∀ (j p : Nat), j < a → part[j]? = some p → ∀ x ∈ edgeAt h p, F x = []) ∧ ∀ k ∈ (F x).take s, okI h f part k
theorem nL_row {w : World} {B : Option Addr} {l : List Nat} (h : Row w B (nL l)) {k : Nat} (hk : k < l.length) : ∃ b o, B = some ⟨b, o, none⟩ ∧ b < w.heap.size ∧ w.cell? ⟨b, o + k, none⟩ = some (.int .i64 (l[k] : Nat)) := row_nat h hk
theorem own_rowN {w : World} {base n c : Nat} {A : Option Addr} {l : List Nat} (h : w.ownsRow base 3 1 (.slice A n c) n (nL l)) : Row w A (nL l) := by
  obtain ⟨A', c', e, hr⟩ := own_row h
  injection e with e _ _
  subst e
  exact hr
end Go.Proofs.Ytoaciliojdaoaaa

/- Layer 21: what hangs together, by the program. Condition: no more than a thousand edges, no more than a thousand numbers each. -/
namespace Go.Proofs.Ytoaciliojdaoaaa
open Go.RowKit Go.Maps
attribute [local go_sem] more_cell more_frozen more_more more_setCell more_of_drew more_of_drewN lt_more le_more past_cell past_cell2 past_frozen past_frozen2 past_setCell past_setCell2 mid_cell mid_frozen mid_setCell
attribute [local go_sem ↓] Go.wp_at_zero Go.wp_at_succ

theorem infoB21 : (Try.prog.info? 4).map (fun i => (i.zero, i.size, i.bytes)) = some (some (.bool false), 1, 1) := by kernel_rfl
theorem neII : (3 : TypeId) ≠ 30 := by decide
/-- Lists of numbers, gathered in a row of one's own. -/
structure GatG (u : World) (base : Nat) (L : List (List Int)) (A : Option Addr) (c : Nat) (css : List (List Value)) (wr : World) : Prop where
  grew : Grew u wr
  own : wr.ownsRow base 30 1 (.slice A L.length c) L.length css.flatten
  rows : ListR (IlR (MRow u wr)) 1 L css
theorem GatG.on {u wr w' : World} {base : Nat} {L : List (List Int)} {A : Option Addr} {c : Nat} {css : List (List Value)} (h : GatG u base L A c css wr) (g : Grew wr w') : GatG u base L A c css w' :=
  ⟨h.grew.trans g, own_grewU h.own g, h.rows.map fun _ _ hx => hx.imp fun _ _ hm => hm.grew g⟩
theorem GatG.done {u wr : World} {base : Nat} {L : List (List Int)} {A : Option Addr} {c : Nat} {css : List (List Value)} (h : GatG u base L A c css wr) : GridI (PRow wr) A L := by
  obtain ⟨A', c', e, hr⟩ := own_row h.own
  injection e with e _ _
  subst e
  exact ⟨css, h.rows.map fun x cs hx => hx.imp fun B xs hm => hm.plain h.grew, hr⟩
theorem GatG.snoc {u wr w' : World} {base : Nat} {L : List (List Int)} {A A' : Option Addr} {c c' : Nat} {css : List (List Value)} {x : List Int} {v : Value} (h : GatG u base L A c css wr) (hu : u.heap.size ≤ base) (hx : IlR (MRow u wr) x [v])
    (ho : w'.ownsRow base 30 1 (.slice A' (L.length + 1) c') (L.length + 1) (css.flatten ++ [v])) (hb : wr.grownBy w' (Value.slice A L.length c).ownBlock) : GatG u base (L ++ [x]) A' c' (css ++ [[v]]) w' := by
  have H : ∀ B xs, MRow u wr 3 B xs → MRow u w' 3 B xs := fun B xs hm => hm.grown h.own neII hb
  refine ⟨h.grew.grown hb fun k hk => Nat.le_trans hu (own_base h.own k hk), ?_, (h.rows.map fun y ds hy => hy.imp H).snoc (hx.imp H) rfl⟩
  rw [List.length_append, List.length_singleton, List.flatten_append]
  simpa using ho
/-- What turns but a map and truths. -/
theorem GatG.keep {u wr w' : World} {base mb gt : Nat} {cs : Array Value} {l : List (Value × Value)} {L : List (List Int)} {A : Option Addr} {c : Nat} {css : List (List Value)} (h : GatG u base L A c css wr) (k : Keep2 wr w' mb gt) (hg : Grew u w') (hm : MapAt wr mb l) (ht : Blok wr gt 4 cs) : GatG u base L A c css w' := by
  have hne : ∀ (b : Nat) (cur : Array Value) (t : TypeId), wr.heap[b]? = some (.cells cur t (0, 0)) → t ≠ 4 → w'.heap[b]? = wr.heap[b]? := fun b cur t hh hnt => k.block b (heap_lt hh) (fun e => by
    obtain ⟨es, clock, hb, _⟩ := hm
    rw [← e, hh] at hb
    cases hb) (fun e => by
    unfold Blok at ht
    rw [← e, hh] at ht
    injection ht with ht
    injection ht with _ h2 _
    exact hnt h2)
  refine ⟨hg, ?_, h.rows.map fun x cs hx => hx.imp fun B xs hm => hm.imp id fun ht => ht.block fun b cur _ hh => hne b cur _ hh neBI⟩
  obtain ⟨hl, ho⟩ := h.own
  refine ⟨hl, ?_⟩
  rcases ho with ho | ⟨q, cap, cur, e, hb, hh, r⟩
  · exact Or.inl ho
  · exact Or.inr ⟨q, cap, cur, e, hb, by rw [hne q cur _ hh (by decide)]; exact hh, r⟩
/-- Lists of numbers that come back. -/
def GridF (w : World) (L : List (List Int)) (e : Ending) (w' : World) : Prop := ∃ A k, e = .returned (.slice A L.length k) ∧ Grew w w' ∧ GridI (PRow w') A L
section
variable {w : World} {ops : Array Oper} {rest : List Oper} {o : Oper} {a : Act} {Q : Exit → Act → World → Prop} {mb base : Nat} {l : List (Value × Value)} {F : Int → List Nat}
theorem wpList_mrun (hg : o.guard = none) (m x v : Operand) (t : TypeId) (hop : o.op = Op.mapUpdate t m x v) {vm vx vv : Value} (hm : a.eval m = vm) (hx : a.eval x = vx) (hv : a.eval v = vv) {w' : World} (hrun : (Instr.mapUpdate t vm vx vv).run Try.prog w = .ok () w')
    (hK : wpList Try.prog ops Q rest (a.put o.dst undef) w') : wpList Try.prog ops Q (o :: rest) a w := by
  refine wpList_plain hg fun K' hK' => ?_
  unfold Oper.wp
  simp [execOp, hop, hm, hx, hv, hrun, Result.andThen]
  exact hK' _ _ hK
end
/-- The map while it is filled: the edges up to one, and a part of that. -/
structure WithS (h : List (List Int)) (mb base : Nat) (u : World) (i q : Nat) (l : List (Value × Value)) (F : Int → List Nat) (wr : World) : Prop where
  grew : Grew u wr
  map : WithM wr mb base l F
  mem : ∀ x, wfI x → ∀ k, k ∈ F x ↔ (k < i ∧ x ∈ edgeAt h k) ∨ (k = i ∧ x ∈ (edgeAt h i).take q)
  few : ∀ x, (F x).length ≤ ((h.take i).flatten).length + q
def WiO (h : List (List Int)) (mb base : Nat) (u : World) (v : Value) (wr : World) : Prop := ∃ (i : Nat) (l : List (Value × Value)) (F : Int → List Nat), v = .int .i64 i ∧ i ≤ h.length ∧ WithS h mb base u i 0 l F wr
def WiI (h : List (List Int)) (mb base : Nat) (u : World) (i : Nat) (v : Value) (wr : World) : Prop := ∃ (q : Nat) (l : List (Value × Value)) (F : Int → List Nat), v = .int .i64 q ∧ q ≤ (edgeAt h i).length ∧ WithS h mb base u i q l F wr
theorem WithS.next {h : List (List Int)} {mb base i : Nat} {u wr : World} {l : List (Value × Value)} {F : Int → List Nat} (s : WithS h mb base u i (edgeAt h i).length l F wr) (hi : i < h.length) : WithS h mb base u (i + 1) 0 l F wr := by
  refine ⟨s.grew, s.map, fun x hx k => ?_, fun x => ?_⟩
  · rw [s.mem x hx k, List.take_length]
    constructor
    · rintro (⟨h1, h2⟩ | ⟨rfl, h2⟩)
      · exact Or.inl ⟨by omega, h2⟩
      · exact Or.inl ⟨by omega, h2⟩
    · rintro (⟨h1, h2⟩ | ⟨_, h2⟩)
      · rcases Nat.lt_or_ge k i with h3 | h3
        · exact Or.inl ⟨h3, h2⟩
        · obtain rfl : k = i := by omega
          exact Or.inr ⟨rfl, h2⟩
      · simp at h2
  · have := s.few x
    rw [flat_take hi, List.length_append, ← edgeAt_eq hi]
    omega
/-- Parts, as far as they have come. -/
def PaAt (h : List (List Int)) (n mb gt base : Nat) (u : World) (v i : Value) (wr : World) : Prop :=
  ∃ (j : Nat) (A : Option Addr) (c : Nat) (css : List (List Value)) (l : List (Value × Value)) (F : Int → List Nat) (tk : Nat → Bool), i = .int .i64 j ∧ j ≤ n ∧ v = .slice A ((clsA j n (partR h)).length) c ∧
    GatG u base ((clsA j n (partR h)).map fun l => l.map fun (a : Nat) => (a : Int)) A c css wr ∧ WithR wr mb l F ∧ (∀ p ∈ l, ∀ B m c, p.2 = .slice (some B) m c → B.block < wr.heap.size) ∧ Blok wr gt 4 (bsV n tk) ∧ (∀ k, k < n → (tk k = true ↔ partR h k < j)) ∧ (∀ x, (F x).length ≤ 1000000) ∧
    ∀ x, wfI x → (F x = [] ∧ ∀ k, k < n → x ∈ edgeAt h k → partR h k < j) ∨ (∀ k, k ∈ F x ↔ k < n ∧ x ∈ edgeAt h k)
end Go.Proofs.Ytoaciliojdaoaaa

/- Layer 21: what hangs together, by the program: the walk. Condition: no more than a thousand edges, no more than a thousand numbers each. -/
namespace Go.Proofs.Ytoaciliojdaoaaa
open Go.RowKit Go.Maps
attribute [local go_sem] more_cell more_frozen more_more more_setCell more_of_drew more_of_drewN lt_more le_more past_cell past_cell2 past_frozen past_frozen2 past_setCell past_setCell2 mid_cell mid_frozen mid_setCell
attribute [local go_sem ↓] Go.wp_at_zero Go.wp_at_succ

theorem WithR.other {w w' : World} {mb base size n : Nat} {e : TypeId} {v : Value} {xs : List Value} {l : List (Value × Value)} {F : Int → List Nat} (h : WithR w mb l F) (ho : w.ownsRow base e size v n xs) (hne : (3 : TypeId) ≠ e) (g : w.grownBy w' v.ownBlock) : WithR w' mb l F := by
  refine h.turn (g.block mb h.map.lt fun he => ?_) fun b cur hh _ _ => g.block b (heap_lt hh) fun he => ?_
  · rcases ho.2 with ⟨rfl, _⟩ | ⟨q, cap, cur, rfl, _, hh, _⟩
    · cases he
    · simp [Value.ownBlock] at he
      subst he
      obtain ⟨es, clock, hm, _⟩ := h.map
      rw [hm] at hh
      cases hh
  · rcases ho.2 with ⟨rfl, _⟩ | ⟨q, cap, cur2, rfl, _, hh2, _⟩
    · cases he
    · simp [Value.ownBlock] at he
      subst he
      rw [hh] at hh2
      injection hh2 with hh2
      injection hh2 with _ h2 _
      exact hne h2
theorem Blok.other {w w' : World} {g base size n : Nat} {e t : TypeId} {cs : Array Value} {v : Value} {xs : List Value} (h : Blok w g t cs) (ho : w.ownsRow base e size v n xs) (hne : t ≠ e) (k : w.grownBy w' v.ownBlock) : Blok w' g t cs :=
  h.grown k fun he => by
    rcases ho.2 with ⟨rfl, _⟩ | ⟨q, cap, cur2, rfl, _, hh2, _⟩
    · cases he
    · simp [Value.ownBlock] at he
      subst he
      unfold Blok at h
      rw [h] at hh2
      injection hh2 with hh2
      injection hh2 with _ h2 _
      exact hne h2
theorem infoL21 : (Try.prog.info? 30).map (fun i => (i.zero, i.size, i.bytes)) = some (some (.slice none 0 0), 1, 24) := by kernel_rfl
theorem nL_iV (L : List Nat) : nL L = iV (L.map fun (a : Nat) => (a : Int)) := by simp [nL, iV]
end Go.Proofs.Ytoaciliojdaoaaa

/- Layer 21: is one within the other, degrees, rising, sets, by the program. Condition: no more than a million numbers. -/
namespace Go.Proofs.Ytoaciliojdaoaaa
open Go.RowKit
attribute [local go_sem] more_cell more_frozen more_more more_setCell more_of_drew more_of_drewN lt_more le_more past_cell past_cell2 past_frozen past_frozen2 past_setCell past_setCell2 mid_cell mid_frozen mid_setCell
attribute [local go_sem ↓] Go.wp_at_zero Go.wp_at_succ

def IxAt (w : World) (l : List Int) (p : Int → Bool) (i : Value) (wr : World) : Prop := ∃ j : Nat, j ≤ l.length ∧ i = .int .i64 j ∧ Grew w wr ∧ ∀ x ∈ l.take j, p x = false
end Go.Proofs.Ytoaciliojdaoaaa

/- Layer 21: lists of numbers, by the document: has, put, set, shared, within. Condition: no more than a million numbers. -/
namespace Go.Proofs.Ytoaciliojdaoaaa
open Go.RowKit
attribute [local go_sem] more_cell more_frozen more_more more_setCell more_of_drew more_of_drewN lt_more le_more past_cell past_cell2 past_frozen past_frozen2 past_setCell past_setCell2 mid_cell mid_frozen mid_setCell
attribute [local go_sem ↓] Go.wp_at_zero Go.wp_at_succ

def HasAt (w : World) (l : List Int) (v : Int) (i : Value) (wr : World) : Prop := ∃ j : Nat, j ≤ l.length ∧ i = .int .i64 j ∧ Grew w wr ∧ v ∉ l.take j
theorem not_take {l : List Int} {v : Int} {j : Nat} (h : j < l.length) (hn : v ∉ l.take j) (hx : l[j] ≠ v) : v ∉ l.take (j + 1) := by
  rw [List.take_succ_eq_append_getElem h, List.mem_append]
  rintro (h1 | h1)
  · exact hn h1
  · exact hx (List.mem_singleton.1 h1).symm
def WiAt (w : World) (a b : List Int) (i : Value) (wr : World) : Prop := ∃ j : Nat, j ≤ a.length ∧ i = .int .i64 j ∧ Grew w wr ∧ withinI (a.take j) b = true
def PutAt (w : World) (s : List Int) (v : Int) (i : Value) (wr : World) : Prop := ∃ j : Nat, j ≤ s.length ∧ i = .int .i64 j ∧ Grew w wr ∧ ∀ y ∈ s.take j, y < v
/-- Numbers that come back: the very row, or one of one's own. -/
def PutT (base : Nat) (w : World) (l : List Int) (e : Ending) (w' : World) : Prop := ∃ A k, e = .returned (.slice A l.length k) ∧ l.length ≤ k ∧ Grew w w' ∧ TRow base w' 3 A (iV l)
def PutFg (w : World) (l : List Int) (e : Ending) (w' : World) : Prop := PutT w.heap.size w l e w'
end Go.Proofs.Ytoaciliojdaoaaa

/- Layer 21: sets and lists of sets, by the document. Condition: no more than a million numbers. -/
namespace Go.Proofs.Ytoaciliojdaoaaa
open Go.RowKit
attribute [local go_sem] more_cell more_frozen more_more more_setCell more_of_drew more_of_drewN lt_more le_more past_cell past_cell2 past_frozen past_frozen2 past_setCell past_setCell2 mid_cell mid_frozen mid_setCell
attribute [local go_sem ↓] Go.wp_at_zero Go.wp_at_succ

/-- A set, as far as it has come. -/
def FlAt (w : World) (F : Nat → List Int) (n : Nat) (v i : Value) (wr : World) : Prop := ∃ (j : Nat) (A : Option Addr) (k : Nat), j ≤ n ∧ v = .slice A (setI (F j)).length k ∧ i = .int .i64 j ∧ (setI (F j)).length ≤ k ∧ Grew w wr ∧ TRow w.heap.size wr 3 A (iV (setI (F j)))
def SgAt (w : World) (h m : List (List Int)) (i : Value) (wr : World) : Prop := ∃ j : Nat, j ≤ h.length ∧ i = .int .i64 j ∧ Grew w wr ∧ h.take j = m.take j
def MuGAt (w : World) (l : List (List Int)) (i : Value) (wr : World) : Prop := ∃ j : Nat, j ≤ l.length ∧ j ≤ 20 ∧ i = .int .i64 j ∧ Grew w wr ∧ ∀ c ∈ l.take j, c.length ≤ 30
end Go.Proofs.Ytoaciliojdaoaaa

/- Layer 21: what hangs together, by the document. Condition: no more than a thousand edges, no more than a million numbers each. -/
namespace Go.Proofs.Ytoaciliojdaoaaa
open Go.RowKit
attribute [local go_sem] more_cell more_frozen more_more more_setCell more_of_drew more_of_drewN lt_more le_more past_cell past_cell2 past_frozen past_frozen2 past_setCell past_setCell2 mid_cell mid_frozen mid_setCell
attribute [local go_sem ↓] Go.wp_at_zero Go.wp_at_succ

theorem flat_oneg : ∀ vs : List Value, (vs.map fun v => [v]).flatten = vs
  | [] => rfl
  | a :: t => by rw [List.map_cons, List.flatten_cons, flat_oneg t]; rfl
theorem gridI_nest {w : World} {A : Option Addr} {ll : List (List Nat)} (h : NestR w A ll) : GridI (PRow w) A (ll.map fun l => l.map fun (a : Nat) => (a : Int)) := by
  obtain ⟨vs, hl, hr, hv⟩ := h
  refine ⟨vs.map fun v => [v], ⟨by simp [hl], fun i x cs h1 h2 => ?_⟩, ?_⟩
  · rw [List.getElem?_map] at h1 h2
    obtain ⟨l, hl1, rfl⟩ := Option.map_eq_some_iff.1 h1
    obtain ⟨v, hv1, rfl⟩ := Option.map_eq_some_iff.1 h2
    obtain ⟨B, c, rfl, hB⟩ := hv i v l hv1 hl1
    exact ⟨⟨B, c, by rw [List.length_map], by rw [← nL_iV]; exact hB⟩, rfl⟩
  · rw [flat_oneg]
    exact hr
theorem pair_join {h : List (List Int)} {n i q : Nat} (hi : i < n) (hq : q < n) (hs : sharesB h i q = true) :
    foldR n (pairU h i ++ pairR h i (q + 1)) = joinR (foldR n (pairU h i ++ pairR h i q)) (foldR n (pairU h i ++ pairR h i q) i) (foldR n (pairU h i ++ pairR h i q) q) := by
  rw [pairR_in hs, ← List.append_assoc, foldR_snoc]
  unfold joinI
  rw [if_pos (show inB n (i : Int) (q : Int) from ⟨by omega, by omega, by omega, by omega⟩)]
  rfl
def PgO (w : World) (h : List (List Int)) (n : Nat) (v i : Value) (wr : World) : Prop := ∃ (j : Nat) (A : Option Addr) (c : Nat), j ≤ n ∧ v = .slice A n c ∧ i = .int .i64 j ∧ Grew w wr ∧ Row wr A (numsL n (foldR n (pairU h j)))
def PgI (w : World) (h : List (List Int)) (n i : Nat) (v x : Value) (wr : World) : Prop := ∃ (q : Nat) (A : Option Addr) (c : Nat), q ≤ n ∧ v = .slice A n c ∧ x = .int .i64 q ∧ Grew w wr ∧ Row wr A (numsL n (foldR n (pairU h i ++ pairR h i q)))
end Go.Proofs.Ytoaciliojdaoaaa

namespace Go.Proofs.Ytoaciliojdaoaaa
open Go.RowKit
attribute [local go_sem] more_cell more_frozen more_more more_setCell more_of_drew more_of_drewN lt_more le_more past_cell past_cell2 past_frozen past_frozen2 past_setCell past_setCell2 mid_cell mid_frozen mid_setCell
attribute [local go_sem ↓] Go.wp_at_zero Go.wp_at_succ

def liveG : List (List Int) := [[1, 2], [3], [2, 4]]
theorem sharesB_any (h : List (List Int)) (i k : Nat) : sharesB h i k = (edgeAt h i).any fun v => decide (v ∈ edgeAt h k) := by
  rw [Bool.eq_iff_iff, sharesB_iff, List.any_eq_true]
  simp
theorem liveG_parts : ((clsM 3 (partR liveG)).map fun l => l.map fun (a : Nat) => (a : Int)) = [[0, 2], [1]] := by
  unfold partR pairU pairR
  simp only [sharesB_any]
  decide +kernel
theorem gridI_two {w : World} {A : Option Addr} {l m : List Int} {B C : Option Addr} {b c : Nat} (hB : Row w B (iV l)) (hC : Row w C (iV m)) (hA : Row w A [.slice B l.length b, .slice C m.length c]) : GridI (PRow w) A [l, m] := by
  refine ⟨[[.slice B l.length b], [.slice C m.length c]], ⟨rfl, fun i x cs h1 h2 => ?_⟩, hA⟩
  match i with
  | 0 => simp at h1 h2; subst h1 h2; exact ⟨⟨B, b, rfl, hB⟩, rfl⟩
  | 1 => simp at h1 h2; subst h1 h2; exact ⟨⟨C, c, rfl, hC⟩, rfl⟩
  | i + 2 => simp at h1
theorem gridI_three {w : World} {A : Option Addr} {l m p : List Int} {B C D : Option Addr} {b c d : Nat} (hB : Row w B (iV l)) (hC : Row w C (iV m)) (hD : Row w D (iV p)) (hA : Row w A [.slice B l.length b, .slice C m.length c, .slice D p.length d]) : GridI (PRow w) A [l, m, p] := by
  refine ⟨[[.slice B l.length b], [.slice C m.length c], [.slice D p.length d]], ⟨rfl, fun i x cs h1 h2 => ?_⟩, hA⟩
  match i with
  | 0 => simp at h1 h2; subst h1 h2; exact ⟨⟨B, b, rfl, hB⟩, rfl⟩
  | 1 => simp at h1 h2; subst h1 h2; exact ⟨⟨C, c, rfl, hC⟩, rfl⟩
  | 2 => simp at h1 h2; subst h1 h2; exact ⟨⟨D, d, rfl, hD⟩, rfl⟩
  | i + 3 => simp at h1
def live21W (w : World) : World := (((w.alloc (.cells #[.int .i64 1, .int .i64 2] 3)).alloc (.cells #[.int .i64 3] 3)).alloc (.cells #[.int .i64 2, .int .i64 4] 3)).alloc (.cells #[.slice (some ⟨w.heap.size, 0, none⟩) 2 2, .slice (some ⟨w.heap.size + 1, 0, none⟩) 1 1, .slice (some ⟨w.heap.size + 2, 0, none⟩) 2 2] 30)
theorem live21W_grid (w : World) : GridI (PRow (live21W w)) (some ⟨w.heap.size + 3, 0, none⟩) liveG :=
  gridI_three (l := [1, 2]) (m := [3]) (p := [2, 4]) (b := 2) (c := 1) (d := 2) (row_alloc (row_alloc (row_alloc (row_new _ _ _ _ rfl) _) _) _) (row_alloc (row_alloc (row_new _ _ _ _ (by simp)) _) _) (row_alloc (row_new _ _ _ _ (by simp)) _) (row_new _ _ _ #[_, _, _] (by simp))
theorem live21S_grid (w : World) : GridI (PRow (((w.alloc (.cells #[.int .i64 0, .int .i64 2] 3)).alloc (.cells #[.int .i64 1] 3)).alloc (.cells #[.slice (some ⟨w.heap.size, 0, none⟩) 2 2, .slice (some ⟨w.heap.size + 1, 0, none⟩) 1 1] 30))) (some ⟨w.heap.size + 1 + 1, 0, none⟩) [[0, 2], [1]] :=
  gridI_two (l := [0, 2]) (m := [1]) (b := 2) (c := 1) (row_alloc (row_alloc (row_new _ _ _ _ rfl) _) _) (row_alloc (row_new _ _ _ _ (by simp)) _) (row_new _ _ _ #[_, _] (by simp))
end Go.Proofs.Ytoaciliojdaoaaa

/- Layer 33: plans that come in, as far as their pipes' needs go; how many batches there are. Condition: memory that is there. -/
namespace Go.Proofs.Ytoaciliojdaoaaa
open Go.RowKit
attribute [local go_sem] more_cell more_frozen more_more more_setCell more_of_drew more_of_drewN lt_more le_more past_cell past_cell2 past_frozen past_frozen2 past_setCell past_setCell2 mid_cell mid_frozen mid_setCell
attribute [local go_sem ↓] Go.wp_at_zero Go.wp_at_succ

/-- A slice that nothing is said of. -/
structure Osl where
  a : Option Addr
  n : Nat
  k : Nat
/-- A plan's fields but its pipes. -/
structure Oth where
  p0 : Osl
  p1 : Osl
  p3 : Osl
  p4 : Osl
  p5 : Osl
def plC (o : Oth) (A : Option Addr) (m k : Nat) : Array Value := #[.slice o.p0.a o.p0.n o.p0.k, .slice o.p1.a o.p1.n o.p1.k, .slice A m k, .slice o.p3.a o.p3.n o.p3.k, .slice o.p4.a o.p4.n o.p4.k, .slice o.p5.a o.p5.n o.p5.k]
def plV (o : Oth) (A : Option Addr) (m k : Nat) : Value := .agg (plC o A m k)
def PipR (R : Rw) (l : List Int) (cs : List Value) : Prop := ∃ (s t : Osl) (B : Option Addr) (k : Nat), cs = [.slice s.a s.n s.k, .slice t.a t.n t.k, .slice B l.length k] ∧ R 3 B (iV l)
def PipsR (w : World) (A : Option Addr) (nd : List (List Int)) : Prop := ∃ css, ListR (PipR (PRow w)) 3 nd css ∧ Row w A css.flatten
theorem PipsR.grew {w w' : World} {A : Option Addr} {nd : List (List Int)} (h : PipsR w A nd) (g : Grew w w') : PipsR w' A nd := by
  obtain ⟨css, h1, h2⟩ := h
  exact ⟨css, h1.map fun x cs ⟨s, t, B, k, e, hr⟩ => ⟨s, t, B, k, e, Row.grew hr g⟩, h2.grew g⟩
theorem pips_at {w : World} {A : Option Addr} {nd : List (List Int)} (h : PipsR w A nd) {i : Nat} (hi : i < nd.length) :
    ∃ b o B c, A = some ⟨b, o, none⟩ ∧ b < w.heap.size ∧ w.cell? ⟨b, o + i * 3 + 2, none⟩ = some (.slice B nd[i].length c) ∧ Row w B (iV nd[i]) := by
  obtain ⟨css, h1, h2⟩ := h
  obtain ⟨b, o, cs, hA, hb, hr, _, hc⟩ := h1.at_ h2 (by decide) hi
  obtain ⟨s, t, B, k, rfl, hx⟩ := hr
  exact ⟨b, o, B, k, hA, hb, hc 2 _ rfl, hx⟩
section
variable {H : Type} {enc : TypeId × Value → H} {W : World}
theorem rdw_osl {P : Program} {t e : TypeId} (ht : P.underlying t = some (.slice e)) (hc : P.cellsOf t = 1) : RdW enc P W t 1 (fun (s : Osl) cs => cs = [.slice s.a s.n s.k]) :=
  ⟨hc, fun n cs y _ h _ => by
    rcases Go.Deep.open_slice ht h with ⟨hcs, _⟩ | ⟨a, len, cap, m, k, D, Pl, hcs, _⟩
    · exact ⟨⟨none, 0, 0⟩, hcs⟩
    · exact ⟨⟨some a, len, cap⟩, hcs⟩⟩
theorem rdw_pip : RdW enc Try.prog W 82 3 (fun (l : List Int) cs => PipR (PRow W) l cs ∧ wfL l) :=
  ⟨by kernel_rfl, fun n cs y hl h ho => by
    obtain ⟨s, h0⟩ := rdw_part (i := 0) (o := 0) Try.underlying82 rfl rfl (rdw_osl Try.underlying22 (by kernel_rfl)) (by rw [hl]; decide) h ho
    obtain ⟨t, h1⟩ := rdw_part (i := 1) (o := 1) Try.underlying82 rfl rfl (rdw_osl Try.underlying30 (by kernel_rfl)) (by rw [hl]; decide) h ho
    obtain ⟨l, A, c, css, h2, _, _, _, h3, h4⟩ := rdw_part (i := 2) (o := 2) Try.underlying82 rfl rfl (rdw_slice Try.underlying30 (by kernel_rfl) (by decide) (bytes := 8) (by kernel_rfl) rdw_iS) (by rw [hl]; decide) h ho
    match cs, hl with
    | [a, b, d], _ =>
      simp at h0 h1 h2
      subst h0
      subst h1
      subst h2
      exact ⟨l, ⟨s, t, A, c, rfl, (nums_row h3 h4).1⟩, fun x hx => (nums_row h3 h4).2 x hx⟩⟩
theorem rdw_plan : RdW enc Try.prog W 51 6 (fun (x : Oth × List (List Int)) cs => ∃ A k, cs = (plC x.1 A x.2.length k).toList ∧ x.2.length ≤ 1000000000000000 ∧ PipsR W A x.2 ∧ wfG x.2) :=
  ⟨by kernel_rfl, fun n cs y hl h ho => by
    obtain ⟨s0, h0⟩ := rdw_part (i := 0) (o := 0) Try.underlying51 rfl rfl (rdw_osl Try.underlying30 (by kernel_rfl)) (by rw [hl]; decide) h ho
    obtain ⟨s1, h1⟩ := rdw_part (i := 1) (o := 1) Try.underlying51 rfl rfl (rdw_osl Try.underlying39 (by kernel_rfl)) (by rw [hl]; decide) h ho
    obtain ⟨nd, A, c, css, h2, _, _, h5, h3, h4⟩ := rdw_part (i := 2) (o := 2) Try.underlying51 rfl rfl (rdw_slice Try.underlying48 (by kernel_rfl) (by decide) (bytes := 72) (by kernel_rfl) rdw_pip) (by rw [hl]; decide) h ho
    obtain ⟨s3, g3⟩ := rdw_part (i := 3) (o := 3) Try.underlying51 rfl rfl (rdw_osl Try.underlying22 (by kernel_rfl)) (by rw [hl]; decide) h ho
    obtain ⟨s4, g4⟩ := rdw_part (i := 4) (o := 4) Try.underlying51 rfl rfl (rdw_osl Try.underlying49 (by kernel_rfl)) (by rw [hl]; decide) h ho
    obtain ⟨s5, g5⟩ := rdw_part (i := 5) (o := 5) Try.underlying51 rfl rfl (rdw_osl Try.underlying22 (by kernel_rfl)) (by rw [hl]; decide) h ho
    match cs, hl with
    | [a0, a1, a2, a3, a4, a5], _ =>
      simp at h0 h1 h2 g3 g4 g5
      subst h0
      subst h1
      subst h2
      subst g3
      subst g4
      subst g5
      refine ⟨(⟨s0, s1, s3, s4, s5⟩, nd), A, c, rfl, ?_, ⟨css, h3.each.1, h4⟩, h3.each.2⟩
      unfold reachBytes at h5
      show nd.length ≤ _
      omega⟩
end
theorem boxP {w : World} {g : Nat} {o : Oth} {A : Option Addr} {m k : Nat} (h : Blok w g 51 (plC o A m k)) : g < w.heap.size ∧ w.cell? ⟨g, 0, none⟩ = some (.slice o.p0.a o.p0.n o.p0.k) ∧ w.cell? ⟨g, 1, none⟩ = some (.slice o.p1.a o.p1.n o.p1.k) ∧ w.cell? ⟨g, 2, none⟩ = some (.slice A m k) ∧
    w.cell? ⟨g, 3, none⟩ = some (.slice o.p3.a o.p3.n o.p3.k) ∧ w.cell? ⟨g, 4, none⟩ = some (.slice o.p4.a o.p4.n o.p4.k) ∧ w.cell? ⟨g, 5, none⟩ = some (.slice o.p5.a o.p5.n o.p5.k) :=
  ⟨h.lt, h.cell 0, h.cell 1, h.cell 2, h.cell 3, h.cell 4, h.cell 5⟩
def MuPAt (w : World) (l : List (List Int)) (i : Value) (wr : World) : Prop := ∃ j : Nat, j ≤ l.length ∧ j ≤ 30 ∧ i = .int .i64 j ∧ Grew w wr ∧ ∀ c ∈ l.take j, c.length ≤ 30
/-- How many batches any rows take. -/
def batI (r b : Int) : Int := if r ≤ 0 then 1 else (r - 1) / (if b < 1 then 1 else b) + 1
theorem batI_in {r b : Int} (hr : wfI r) : 1 ≤ batI r b ∧ batI r b ≤ 9223372036854775807 := by
  have h2 : r ≤ 9223372036854775807 := by
    unfold wfI at hr
    have h1 : IntKind.i64.min = -9223372036854775808 := by decide
    have h2 : IntKind.i64.max = 9223372036854775807 := by decide
    simp only [Lit.wf, h1, h2, Bool.and_eq_true, decide_eq_true_eq] at hr
    omega
  unfold batI
  split
  · omega
  · rename_i h0
    have hb : (1 : Int) ≤ (if b < 1 then 1 else b) := by split <;> omega
    generalize (if b < 1 then (1 : Int) else b) = c at *
    have h3 : 0 ≤ (r - 1) / c := Int.ediv_nonneg (by omega) (by omega)
    have h4 : (r - 1) / c ≤ r - 1 := Int.ediv_le_self _ (by omega)
    omega
theorem wfI_in {r : Int} (hr : wfI r) : -9223372036854775808 ≤ r ∧ r ≤ 9223372036854775807 := by
  unfold wfI at hr
  have h1 : IntKind.i64.min = -9223372036854775808 := by decide
  have h2 : IntKind.i64.max = 9223372036854775807 := by decide
  simp only [Lit.wf, h1, h2, Bool.and_eq_true, decide_eq_true_eq] at hr
  omega
theorem bat33_any (r b : Int) (hr : wfI r) (hb : wfI b) (w : World) : Gives Try.prog 33 #[.int .i64 r, .int .i64 b] w (.int .i64 (batI r b)) := by
  have hr2 := wfI_in hr
  have hb2 := wfI_in hb
  have hin := batI_in (b := b) hr
  clear hr hb
  unfold Gives
  by_cases h0 : r ≤ 0
  · have e : batI r b = 1 := by unfold batI; rw [if_pos h0]
    rw [e]
    clear hin e
    go_enter Try.func33, Try.ntmps33
    go_wp2
    go_ret
    exact ⟨rfl, by (show Grew _ _; repeat (first | exact Grew.refl _ | refine Grew.alloc ?_ _ | refine Grew.drew ?_ | refine Grew.more ?_ _))⟩
  · have h0' : 0 < r := by omega
    obtain ⟨c, hc⟩ : ∃ c, (if b < 1 then (1 : Int) else b) = c := ⟨_, rfl⟩
    have hcm : max 1 b = c := by rw [← hc]; split <;> omega
    have hc1 : 1 ≤ c ∧ c ≤ 9223372036854775807 := by rw [← hc]; split <;> omega
    have e : batI r b = (r - 1) / c + 1 := by unfold batI; rw [if_neg h0, hc]
    have h3 : 0 ≤ (r - 1) / c := Int.ediv_nonneg (by omega) (by omega)
    have h4 : (r - 1) / c ≤ r - 1 := Int.ediv_le_self _ (by omega)
    have hsub : IntKind.i64.wrap (r - 1) = r - 1 := IntWalk.i64_in _ (by omega)
    have hquo : IntKind.i64.wrap ((r - 1).tdiv c) = (r - 1) / c := by
      rw [Int.tdiv_eq_ediv_of_nonneg (by omega)]
      exact IntWalk.i64_in _ (by omega)
    have hadd : IntKind.i64.wrap ((r - 1) / c + 1) = (r - 1) / c + 1 := IntWalk.i64_in _ (by omega)
    have hz : (c == 0) = false := by rw [beq_eq_false_iff_ne]; omega
    rw [e]
    clear e hin hc h3 h4
    go_enter Try.func33, Try.ntmps33
    go_wp2
    go_ret
    exact ⟨rfl, by (show Grew _ _; repeat (first | exact Grew.refl _ | refine Grew.alloc ?_ _ | refine Grew.drew ?_ | refine Grew.more ?_ _))⟩
end Go.Proofs.Ytoaciliojdaoaaa

/- Layer 22: the law of ears. Condition: numbers that an int holds. -/
/- Layer 22: ears: plain mathematics. No condition. -/
namespace Go.Proofs.Ytoaciliojdaoaaa

def thB (l : List Bool) (k : Nat) : Bool := l.getD k false
theorem thB_lt {l : List Bool} {k : Nat} (h : thB l k = true) : k < l.length := by
  rcases Nat.lt_or_ge k l.length with h1 | h1
  · exact h1
  · unfold thB at h
    rw [List.getD_eq_getElem?_getD, List.getElem?_eq_none h1] at h
    cases h
theorem thB_at {l : List Bool} {k : Nat} (h : k < l.length) : thB l k = l[k] := by
  unfold thB
  rw [List.getD_eq_getElem?_getD, List.getElem?_eq_getElem h]
  rfl
theorem thB_set {l : List Bool} {i k : Nat} : thB (l.set i false) k = (thB l k && (k != i)) := by
  unfold thB
  rw [List.getD_eq_getElem?_getD, List.getD_eq_getElem?_getD, List.getElem?_set]
  by_cases e : i = k
  · subst e
    by_cases h : i < l.length
    · simp [h]
    · simp [h]
  · rw [if_neg e]
    have : (k != i) = true := by simpa using fun e' => e e'.symm
    rw [this, Bool.and_true]
/-- What one has in common with another that is there lies within a third. -/
def earOk (h : List (List Int)) (l : List Bool) (i p : Nat) : Bool :=
  (List.range h.length).all fun k => !(k != i && thB l k) || withinI (sharedI (edgeAt h i) (edgeAt h k)) (edgeAt h p)
theorem earOk_iff {h : List (List Int)} {l : List Bool} {i p : Nat} : earOk h l i p = true ↔ ∀ k, k < h.length → k ≠ i → thB l k = true → ∀ x, x ∈ edgeAt h i → x ∈ edgeAt h k → x ∈ edgeAt h p := by
  unfold earOk
  rw [List.all_eq_true]
  constructor
  · intro H k hk hki hl x h1 h2
    have := H k (List.mem_range.2 hk)
    have e : (k != i) = true := by simpa using hki
    rw [e, hl] at this
    simp only [Bool.and_self, Bool.not_true, Bool.false_or, withinI_iff] at this
    exact this x ((sharedI_mem _ _ _).2 ⟨h1, h2⟩)
  · intro H k hk
    by_cases e : k = i
    · subst e; simp
    · cases hl : thB l k
      · simp
      · have e' : (k != i) = true := by simpa using e
        rw [e']
        simp only [Bool.and_self, Bool.not_true, Bool.false_or, withinI_iff]
        intro x hx
        rw [sharedI_mem] at hx
        exact H k (List.mem_range.1 hk) e hl x hx.1 hx.2
def earQ (h : List (List Int)) (l : List Bool) (i p : Nat) : Bool := p != i && thB l p && earOk h l i p
/-- An ear's parent. -/
def earP (h : List (List Int)) (l : List Bool) (i : Nat) : Option Nat := if decide (i < h.length) && thB l i then (List.range h.length).find? (earQ h l i) else none
theorem find_someN {n k : Nat} {q : Nat → Bool} (hk : k < n) (hq : q k = true) (hb : ∀ j, j < k → q j = false) : (List.range n).find? q = some k := by
  rw [List.find?_range_eq_some]
  exact ⟨hq, List.mem_range.2 hk, fun j hj => by rw [hb j hj]; rfl⟩
theorem find_noneN {n : Nat} {q : Nat → Bool} (hb : ∀ j, j < n → q j = false) : (List.range n).find? q = none := by
  rw [List.find?_range_eq_none]
  exact fun j hj => by rw [hb j hj]; rfl
/-- All of the others, up to one. -/
def othI (h : List (List Int)) (l : List Bool) (i : Nat) : Nat → List Int
  | 0 => []
  | m + 1 => if m != i && thB l m then othI h l i m ++ edgeAt h m else othI h l i m
theorem othI_mem {h : List (List Int)} {l : List Bool} {i m : Nat} {x : Int} : x ∈ othI h l i m ↔ ∃ k, k < m ∧ k ≠ i ∧ thB l k = true ∧ x ∈ edgeAt h k := by
  induction m with
  | zero => simp [othI]
  | succ m ih =>
    unfold othI
    split
    · rename_i hc
      simp only [Bool.and_eq_true, bne_iff_ne, ne_eq] at hc
      rw [List.mem_append, ih]
      constructor
      · rintro (⟨k, h1, h2⟩ | h1)
        · exact ⟨k, by omega, h2⟩
        · exact ⟨m, by omega, hc.1, hc.2, h1⟩
      · rintro ⟨k, h1, h2, h3, h4⟩
        by_cases e : k = m
        · subst e; exact Or.inr h4
        · exact Or.inl ⟨k, by omega, h2, h3, h4⟩
    · rename_i hc
      rw [ih]
      constructor
      · rintro ⟨k, h1, h2⟩
        exact ⟨k, by omega, h2⟩
      · rintro ⟨k, h1, h2, h3, h4⟩
        refine ⟨k, ?_, h2, h3, h4⟩
        by_cases e : k = m
        · subst e
          refine absurd ?_ hc
          simp [h2, h3]
        · omega
theorem othI_len {h : List (List Int)} {l : List Bool} {i : Nat} (hl : ∀ e ∈ h, e.length ≤ 30) (m : Nat) : (othI h l i m).length ≤ m * 30 := by
  induction m with
  | zero => exact Nat.le_refl _
  | succ m ih =>
    have he : (edgeAt h m).length ≤ 30 := by
      unfold edgeAt
      rw [List.getD_eq_getElem?_getD]
      cases e : h[m]? with
      | none => exact Nat.zero_le _
      | some x => exact hl x (List.mem_of_getElem? e)
    unfold othI
    split
    · rw [List.length_append]; omega
    · omega
theorem oth_within (h : List (List Int)) (l : List Bool) (i p : Nat) : withinI (sharedI (edgeAt h i) (othI h l i h.length)) (edgeAt h p) = earOk h l i p := by
  rw [Bool.eq_iff_iff, withinI_iff, earOk_iff]
  constructor
  · intro H k hk hki hl x h1 h2
    exact H x ((sharedI_mem _ _ _).2 ⟨h1, othI_mem.2 ⟨k, hk, hki, hl, h2⟩⟩)
  · intro H x hx
    rw [sharedI_mem, othI_mem] at hx
    obtain ⟨h1, k, hk, hki, hl, h2⟩ := hx
    exact H k hk hki hl x h1 h2
/-- The next ear. -/
def stepE (h : List (List Int)) (l : List Bool) : Option (Nat × Nat) :=
  match (List.range h.length).find? fun i => (earP h l i).isSome with
  | none => none
  | some i => (earP h l i).map fun p => (i, p)
theorem stepE_some {h : List (List Int)} {l : List Bool} {i p : Nat} (hi : i < h.length) (hp : earP h l i = some p) (hb : ∀ j, j < i → earP h l j = none) : stepE h l = some (i, p) := by
  unfold stepE
  rw [find_someN hi (by rw [hp]; rfl) (fun j hj => by rw [hb j hj]; rfl)]
  simp [hp]
theorem stepE_none {h : List (List Int)} {l : List Bool} (hb : ∀ j, j < h.length → earP h l j = none) : stepE h l = none := by
  unfold stepE
  rw [find_noneN fun j hj => by rw [hb j hj]; rfl]
theorem stepE_inv {h : List (List Int)} {l : List Bool} {i p : Nat} (hs : stepE h l = some (i, p)) : i < h.length ∧ earP h l i = some p := by
  unfold stepE at hs
  split at hs
  · cases hs
  · rename_i k hk
    rw [List.find?_range_eq_some] at hk
    cases he : earP h l k with
    | none => rw [he] at hs; cases hs
    | some q =>
      rw [he] at hs
      simp only [Option.map_some] at hs
      injection hs with hs
      injection hs with h1 h2
      subst h1 h2
      exact ⟨List.mem_range.1 hk.2.1, he⟩
theorem earP_inv {h : List (List Int)} {l : List Bool} {i p : Nat} (he : earP h l i = some p) : i < h.length ∧ thB l i = true ∧ p < h.length ∧ p ≠ i ∧ thB l p = true ∧ earOk h l i p = true := by
  unfold earP at he
  split at he
  · rename_i hc
    rw [List.find?_range_eq_some] at he
    simp only [Bool.and_eq_true, decide_eq_true_eq] at hc
    obtain ⟨h1, h2, _⟩ := he
    unfold earQ at h1
    simp only [Bool.and_eq_true, bne_iff_ne, ne_eq] at h1
    exact ⟨hc.1, hc.2, List.mem_range.1 h2, h1.1.1, h1.1.2, h1.2⟩
  · cases he
/-- The ears, one after the other, and what is left. -/
def earsS (h : List (List Int)) : Nat → List (Nat × Nat) × List Bool
  | 0 => ([], List.replicate h.length true)
  | k + 1 => match stepE h (earsS h k).2 with
    | none => earsS h k
    | some (i, p) => ((earsS h k).1 ++ [(i, p)], (earsS h k).2.set i false)
theorem earsS_none {h : List (List Int)} {k : Nat} (hs : stepE h (earsS h k).2 = none) : earsS h (k + 1) = earsS h k := by
  show (match stepE h (earsS h k).2 with | none => earsS h k | some (i, p) => ((earsS h k).1 ++ [(i, p)], (earsS h k).2.set i false)) = _
  rw [hs]
theorem earsS_some {h : List (List Int)} {k i p : Nat} (hs : stepE h (earsS h k).2 = some (i, p)) : earsS h (k + 1) = ((earsS h k).1 ++ [(i, p)], (earsS h k).2.set i false) := by
  show (match stepE h (earsS h k).2 with | none => earsS h k | some (i, p) => ((earsS h k).1 ++ [(i, p)], (earsS h k).2.set i false)) = _
  rw [hs]
theorem earsS_len (h : List (List Int)) (k : Nat) : (earsS h k).2.length = h.length := by
  induction k with
  | zero => simp [earsS]
  | succ k ih =>
    cases hs : stepE h (earsS h k).2 with
    | none => rw [earsS_none hs]; exact ih
    | some q => rw [earsS_some hs]; simpa using ih
theorem count_off {l : List Bool} {i : Nat} (h : thB l i = true) : (l.set i false).count true + 1 = l.count true := by
  have hl := thB_lt h
  rw [thB_at hl] at h
  have h1 := List.count_set (a := false) (b := true) hl
  have h2 : 0 < l.count true := List.count_pos_iff.2 (by rw [← h]; exact List.getElem_mem hl)
  rw [h1, h]
  simp
  omega
theorem earsS_count (h : List (List Int)) (k : Nat) : (earsS h k).1.length + (earsS h k).2.count true = h.length := by
  induction k with
  | zero => simp [earsS]
  | succ k ih =>
    cases hs : stepE h (earsS h k).2 with
    | none => rw [earsS_none hs]; exact ih
    | some q =>
      rw [earsS_some hs]
      have := count_off (earP_inv (stepE_inv hs).2).2.1
      simp only [List.length_append, List.length_singleton]
      omega
theorem earsS_stop {h : List (List Int)} {k : Nat} (hs : stepE h (earsS h k).2 = none) (m : Nat) : earsS h (k + m) = earsS h k := by
  induction m with
  | zero => rfl
  | succ m ih =>
    have : stepE h (earsS h (k + m)).2 = none := by rw [ih]; exact hs
    rw [← Nat.add_assoc, earsS_none this, ih]
theorem earsS_end {h : List (List Int)} {k : Nat} (hl : (earsS h k).1.length = k) (hs : stepE h (earsS h k).2 = none) : earsS h h.length = earsS h k := by
  have := earsS_count h k
  have e := earsS_stop hs (h.length - k)
  rwa [show k + (h.length - k) = h.length by omega] at e
theorem earsS_le (h : List (List Int)) (k : Nat) : (earsS h k).1.length ≤ h.length := by
  have := earsS_count h k
  omega
/-- Which are left, in order. -/
def leftL (l : List Bool) : Nat → List Int
  | 0 => []
  | m + 1 => if thB l m then leftL l m ++ [(m : Int)] else leftL l m
theorem leftL_len (l : List Bool) (m : Nat) (hm : m ≤ l.length) : (leftL l m).length = (l.take m).count true := by
  induction m with
  | zero => simp [leftL]
  | succ m ih =>
    have hml : m < l.length := by omega
    unfold leftL
    rw [List.take_succ_eq_append_getElem hml, List.count_append, ← ih (by omega)]
    rw [thB_at hml]
    split
    · rename_i hc
      rw [hc]
      simp
    · rename_i hc
      have : l[m] = false := by simpa using hc
      rw [this]
      simp
def leftI (h : List (List Int)) : List Int := leftL (earsS h h.length).2 h.length
theorem leftI_len (h : List (List Int)) : (leftI h).length + (earsS h h.length).1.length = h.length := by
  unfold leftI
  rw [leftL_len _ _ (by rw [earsS_len]; exact Nat.le_refl _)]
  have h1 := earsS_count h h.length
  have h2 := earsS_len h h.length
  rw [List.take_of_length_le (by omega)]
  omega
end Go.Proofs.Ytoaciliojdaoaaa

/- Layer 22: is an edge there, is it an ear, by the program. Condition: no more than a thousand edges of no more than thirty numbers each. -/
namespace Go.Proofs.Ytoaciliojdaoaaa
open Go.RowKit
attribute [local go_sem] more_cell more_frozen more_more more_setCell more_of_drew more_of_drewN lt_more le_more past_cell past_cell2 past_frozen past_frozen2 past_setCell past_setCell2 mid_cell mid_frozen mid_setCell
attribute [local go_sem ↓] Go.wp_at_zero Go.wp_at_succ

def bL (l : List Bool) : List Value := l.map Value.bool
theorem bL_len (l : List Bool) : (bL l).length = l.length := by simp [bL]
theorem boolrow_at {w : World} {B : Option Addr} {l : List Bool} {j : Nat} (h : Row w B (bL l)) (hj : j < l.length) : ∃ b o, B = some ⟨b, o, none⟩ ∧ b < w.heap.size ∧ w.cell? ⟨b, o + j, none⟩ = some (.bool (thB l j)) := by
  obtain ⟨b, o, hA, hb, hc⟩ := Row.at_ h (k := j) (by simpa [bL] using hj)
  refine ⟨b, o, hA, hb, ?_⟩
  rw [hc, thB_at hj]
  simp [bL]
/-- Is an edge there still, of n? -/
def thI (n : Nat) (l : List Bool) (i : Int) : Bool := decide (0 ≤ i) && decide (i < n) && thB l i.toNat
theorem thI_nat {n j : Nat} {l : List Bool} (h : j < n) : thI n l (j : Int) = thB l j := by
  unfold thI
  rw [decide_eq_true (by omega), decide_eq_true (by omega), Int.toNat_natCast]
  rfl
theorem thB_out {l : List Bool} {k : Nat} (h : ¬ k < l.length) : thB l k = false := by
  cases e : thB l k
  · rfl
  · exact absurd (thB_lt e) h
/-- An ear's parent, and whether it is one. -/
def earR (h : List (List Int)) (l : List Bool) (i : Int) : Option Nat := if 0 ≤ i then earP h l i.toNat else none
def earT (o : Option Nat) : Value := .tuple #[.int .i64 (match o with | some p => (p : Int) | none => 0), .bool o.isSome]
theorem earR_not {h : List (List Int)} {l : List Bool} {i : Int} (ht : thI h.length l i = false) : earR h l i = none := by
  unfold earR
  split
  · rename_i h0
    unfold earP
    rw [if_neg]
    unfold thI at ht
    rw [decide_eq_true h0, Bool.true_and] at ht
    intro hc
    rw [Bool.and_eq_true, decide_eq_true_eq] at hc
    rw [decide_eq_true (by omega), hc.2] at ht
    cases ht
  · rfl
theorem thI_in {n : Nat} {l : List Bool} {i : Int} (ht : thI n l i = true) : ∃ j : Nat, i = (j : Int) ∧ j < n ∧ thB l j = true := by
  unfold thI at ht
  simp only [Bool.and_eq_true, decide_eq_true_eq] at ht
  exact ⟨i.toNat, by omega, by omega, ht.2⟩
theorem othI_in {h : List (List Int)} {l : List Bool} {i m : Nat} (hm : m ≠ i) (ht : thB l m = true) : othI h l i (m + 1) = othI h l i m ++ edgeAt h m := by
  show (if m != i && thB l m then othI h l i m ++ edgeAt h m else othI h l i m) = _
  rw [if_pos (by simp [hm, ht])]
theorem othI_out {h : List (List Int)} {l : List Bool} {i m : Nat} (hm : m = i ∨ thB l m = false) : othI h l i (m + 1) = othI h l i m := by
  show (if m != i && thB l m then othI h l i m ++ edgeAt h m else othI h l i m) = _
  rw [if_neg]
  rcases hm with rfl | hm
  · simp
  · simp [hm]
theorem othI_wf {h : List (List Int)} {l : List Bool} {i : Nat} (hw : wfG h) (m : Nat) : wfL (othI h l i m) := fun x hx => by
  obtain ⟨k, hk, _, _, hx⟩ := othI_mem.1 hx
  unfold edgeAt at hx
  rw [List.getD_eq_getElem?_getD] at hx
  cases e : h[k]? with
  | none => rw [e] at hx; cases hx
  | some y => rw [e] at hx; exact hw y (List.mem_of_getElem? e) x hx
def OtAt (u : World) (F : Nat → List Int) (n : Nat) (v i : Value) (wr : World) : Prop := ∃ (m : Nat) (A : Option Addr) (c : Nat), m ≤ n ∧ v = .slice A (F m).length c ∧ i = .int .i64 m ∧ Grew u wr ∧ wr.ownsRow u.heap.size 3 1 (.slice A (F m).length c) (F m).length (iV (F m))
def EaAt (u : World) (q : Nat → Bool) (n : Nat) (i : Value) (wr : World) : Prop := ∃ m : Nat, m ≤ n ∧ i = .int .i64 m ∧ Grew u wr ∧ ∀ j, j < m → q j = false
theorem iV_appE (a b : List Int) : iV a ++ iV b = iV (a ++ b) := by simp [iV]
theorem iV_cells (l : List Int) : ∀ u ∈ iV l, u.oneCell' = true := by
  intro u hu
  obtain ⟨x, _, rfl⟩ := List.mem_map.1 hu
  rfl
end Go.Proofs.Ytoaciliojdaoaaa

/- Layer 22: an ear's parent, by the document. Condition: no more than a thousand edges of no more than thirty numbers each. -/
namespace Go.Proofs.Ytoaciliojdaoaaa
open Go.RowKit
attribute [local go_sem] more_cell more_frozen more_more more_setCell more_of_drew more_of_drewN lt_more le_more past_cell past_cell2 past_frozen past_frozen2 past_setCell past_setCell2 mid_cell mid_frozen mid_setCell
attribute [local go_sem ↓] Go.wp_at_zero Go.wp_at_succ

def parV (o : Option Nat) : Int := match o with | some p => (p : Int) | none => -1
def earOkN (h : List (List Int)) (l : List Bool) (i p m : Nat) : Bool := (List.range m).all fun k => !(k != i && thB l k) || withinI (sharedI (edgeAt h i) (edgeAt h k)) (edgeAt h p)
theorem earOkN_all (h : List (List Int)) (l : List Bool) (i p : Nat) : earOkN h l i p h.length = earOk h l i p := rfl
theorem earOkN_succ (h : List (List Int)) (l : List Bool) (i p m : Nat) : earOkN h l i p (m + 1) = (earOkN h l i p m && (!(m != i && thB l m) || withinI (sharedI (edgeAt h i) (edgeAt h m)) (edgeAt h p))) := by
  unfold earOkN
  rw [List.range_succ, List.all_append]
  simp
theorem earOkN_end {h : List (List Int)} {l : List Bool} {i p k : Nat} (ht : ∀ j, k ≤ j → thB l j = false) (d : Nat) : earOkN h l i p (k + d) = earOkN h l i p k := by
  induction d with
  | zero => rfl
  | succ d ih => rw [← Nat.add_assoc, earOkN_succ, ih, ht (k + d) (by omega)]; simp
def EpIn (w : World) (h : List (List Int)) (l : List Bool) (i p n : Nat) (x8 x9 : Value) (wr : World) : Prop := ∃ k : Nat, k ≤ n ∧ x8 = .bool (earOkN h l i p k) ∧ x9 = .int .i64 k ∧ Grew w wr
end Go.Proofs.Ytoaciliojdaoaaa

/- Layer 22: the ears that are removed, which are left, by the program. Condition: no more than a thousand edges of no more than thirty numbers each. -/
namespace Go.Proofs.Ytoaciliojdaoaaa
open Go.RowKit
attribute [local go_sem] more_cell more_frozen more_more more_setCell more_of_drew more_of_drewN lt_more le_more past_cell past_cell2 past_frozen past_frozen2 past_setCell past_setCell2 mid_cell mid_frozen mid_setCell
attribute [local go_sem ↓] Go.wp_at_zero Go.wp_at_succ

/-- Ears in memory: two cells each. -/
def eV (E : List (Nat × Nat)) : List Value := (E.map fun p => [Value.int .i64 p.1, Value.int .i64 p.2]).flatten
theorem eV_snoc (E : List (Nat × Nat)) (i p : Nat) : eV E ++ [.int .i64 i, .int .i64 p] = eV (E ++ [(i, p)]) := by simp [eV]
theorem eV_len (E : List (Nat × Nat)) : (eV E).length = E.length * 2 := by
  induction E with
  | nil => rfl
  | cons a t ih =>
    show ([Value.int .i64 a.1, Value.int .i64 a.2] ++ eV t).length = _
    rw [List.length_append, ih]
    simp
    omega
theorem eV_at {E : List (Nat × Nat)} {i : Nat} (hi : i < E.length) : (eV E)[i * 2]? = some (.int .i64 E[i].1) ∧ (eV E)[i * 2 + 1]? = some (.int .i64 E[i].2) := by
  induction E generalizing i with
  | nil => simp at hi
  | cons a t ih =>
    show ([Value.int .i64 a.1, Value.int .i64 a.2] ++ eV t)[i * 2]? = _ ∧ ([Value.int .i64 a.1, Value.int .i64 a.2] ++ eV t)[i * 2 + 1]? = _
    cases i with
    | zero => exact ⟨rfl, rfl⟩
    | succ i =>
      have h := ih (i := i) (by simpa using hi)
      rw [List.getElem?_append_right (by simp; omega), List.getElem?_append_right (by simp; omega)]
      rw [show (i + 1) * 2 - [Value.int .i64 a.1, Value.int .i64 a.2].length = i * 2 by simp; omega, show (i + 1) * 2 + 1 - [Value.int .i64 a.1, Value.int .i64 a.2].length = i * 2 + 1 by simp; omega]
      simpa using h
theorem bL_set (l : List Bool) (i : Nat) (v : Bool) : (bL l).toArray.setIfInBounds i (.bool v) = (bL (l.set i v)).toArray := by
  unfold bL
  apply Array.ext'
  rw [Array.toList_setIfInBounds, List.map_set]
theorem bL_made (n : Nat) (f : Nat → Bool) (h : ∀ i, i < n → f i = true) : bsV n f = (bL (List.replicate n true)).toArray := by
  unfold bsV bL
  congr 1
  apply List.ext_getElem
  · simp
  · intro i h1 h2
    simp at h1
    simp [h i h1]
theorem row_blok {w : World} {g : Nat} {t : TypeId} {cs : List Value} (h : Blok w g t cs.toArray) : Row w (some ⟨g, 0, none⟩) cs := Or.inr ⟨g, 0, rfl, h.lt, fun j u hu => by
  rw [Nat.zero_add, h.cell]
  simpa using hu⟩
theorem earR_nat {h : List (List Int)} {l : List Bool} {i : Nat} : earR h l (i : Int) = earP h l i := by
  unfold earR
  rw [if_pos (by omega), Int.toNat_natCast]
/-- Ears, and what is left, that are handed back. -/
def RemF (w : World) (h : List (List Int)) (n : Nat) (e : Ending) (w' : World) : Prop :=
  ∃ A k B c, e = .returned (.tuple #[.slice A (earsS h n).1.length k, .slice B n c]) ∧ Grew w w' ∧ Row w' A (eV (earsS h n).1) ∧ Row w' B (bL (earsS h n).2)
def lenV : Value → Nat
  | .slice _ m _ => m
  | _ => 0
def TrAt (w : World) (lb n : Nat) (x : Value) (wr : World) : Prop := ∃ j : Nat, j ≤ n ∧ x = .int .i64 j ∧ Grew w wr ∧ Blok wr lb 4 (bsV n fun i => decide (i < j))
def ReI (w : World) (h : List (List Int)) (l : List Bool) (n : Nat) (v y x : Value) (wr : World) : Prop := ∃ i : Nat, i ≤ n ∧ y = v ∧ x = .int .i64 i ∧ Grew w wr ∧ ∀ j, j < i → earP h l j = none
end Go.Proofs.Ytoaciliojdaoaaa

/- Layer 22: ears and what is left, by the program, and by the document. Condition: no more than a thousand edges of no more than thirty numbers each. -/
namespace Go.Proofs.Ytoaciliojdaoaaa
open Go.RowKit
attribute [local go_sem] more_cell more_frozen more_more more_setCell more_of_drew more_of_drewN lt_more le_more past_cell past_cell2 past_frozen past_frozen2 past_setCell past_setCell2 mid_cell mid_frozen mid_setCell
attribute [local go_sem ↓] Go.wp_at_zero Go.wp_at_succ

def EarsF (w : World) (E : List (Nat × Nat)) (e : Ending) (w' : World) : Prop := ∃ A k, e = .returned (.slice A E.length k) ∧ Grew w w' ∧ Row w' A (eV E)
theorem leftL_in {l : List Bool} {m : Nat} (h : thB l m = true) : leftL l (m + 1) = leftL l m ++ [(m : Int)] := by
  show (if thB l m then leftL l m ++ [(m : Int)] else leftL l m) = _
  rw [if_pos h]
theorem leftL_out {l : List Bool} {m : Nat} (h : thB l m = false) : leftL l (m + 1) = leftL l m := by
  show (if thB l m then leftL l m ++ [(m : Int)] else leftL l m) = _
  rw [if_neg (by simp [h])]
theorem leftL_le (l : List Bool) (m : Nat) : (leftL l m).length ≤ m := by
  induction m with
  | zero => exact Nat.le_refl _
  | succ m ih =>
    unfold leftL
    split
    · rw [List.length_append]; simpa using ih
    · omega
def LeAt (u w : World) (l : List Bool) (n : Nat) (v x : Value) (wr : World) : Prop := ∃ (m : Nat) (A : Option Addr) (c : Nat), m ≤ n ∧ v = .slice A (leftL l m).length c ∧ x = .int .i64 m ∧ Grew w wr ∧ wr.ownsRow u.heap.size 3 1 (.slice A (leftL l m).length c) (leftL l m).length (iV (leftL l m))
def DtAt (w : World) (n : Nat) (v x : Value) (wr : World) : Prop := ∃ (j : Nat) (A : Option Addr) (c : Nat), j ≤ n ∧ v = .slice A j c ∧ x = .int .i64 j ∧ Grew w wr ∧ wr.ownsRow w.heap.size 4 1 (.slice A j c) j (bL (List.replicate j true))
end Go.Proofs.Ytoaciliojdaoaaa

/- Layer 22: the page's example; the law of ears. Condition: numbers that an int holds. -/
namespace Go.Proofs.Ytoaciliojdaoaaa
open Go.RowKit
attribute [local go_sem] more_cell more_frozen more_more more_setCell more_of_drew more_of_drewN lt_more le_more past_cell past_cell2 past_frozen past_frozen2 past_setCell past_setCell2 mid_cell mid_frozen mid_setCell
attribute [local go_sem ↓] Go.wp_at_zero Go.wp_at_succ

def earOk2 (h : List (List Int)) (l : List Bool) (i p : Nat) : Bool :=
  (List.range h.length).all fun k => !(k != i && thB l k) || (edgeAt h i).all fun x => !decide (x ∈ edgeAt h k) || decide (x ∈ edgeAt h p)
theorem earOk_eq (h : List (List Int)) (l : List Bool) (i p : Nat) : earOk h l i p = earOk2 h l i p := by
  rw [Bool.eq_iff_iff, earOk_iff]
  unfold earOk2
  rw [List.all_eq_true]
  constructor
  · intro H k hk
    by_cases e : k = i
    · subst e; simp
    · cases hl : thB l k
      · simp
      · have e' : (k != i) = true := by simpa using e
        rw [e']
        simp only [Bool.and_self, Bool.not_true, Bool.false_or, List.all_eq_true, Bool.or_eq_true, Bool.not_eq_true', decide_eq_false_iff_not, decide_eq_true_iff]
        intro x hx
        by_cases h2 : x ∈ edgeAt h k
        · exact Or.inr (H k (List.mem_range.1 hk) e hl x hx h2)
        · exact Or.inl h2
  · intro H k hk hki hl x h1 h2
    have := H k (List.mem_range.2 hk)
    have e' : (k != i) = true := by simpa using hki
    rw [e', hl] at this
    simp only [Bool.and_self, Bool.not_true, Bool.false_or, List.all_eq_true, Bool.or_eq_true, Bool.not_eq_true', decide_eq_false_iff_not, decide_eq_true_iff] at this
    rcases this x h1 with h3 | h3
    · exact absurd h2 h3
    · exact h3
def earP2 (h : List (List Int)) (l : List Bool) (i : Nat) : Option Nat := if decide (i < h.length) && thB l i then (List.range h.length).find? (fun p => p != i && thB l p && earOk2 h l i p) else none
theorem earP_eq : earP = earP2 := by
  funext h l i
  unfold earP earP2
  have : earQ h l i = fun p => p != i && thB l p && earOk2 h l i p := by
    funext p
    unfold earQ
    rw [earOk_eq]
  rw [this]
theorem stepE_eq (h : List (List Int)) (l : List Bool) : stepE h l = (match (List.range h.length).find? fun i => (earP2 h l i).isSome with | none => none | some i => (earP2 h l i).map fun p => (i, p)) := by
  unfold stepE
  rw [earP_eq]
  try rfl
def liveE1 : List (List Int) := [[1, 2], [2, 3], [1, 3]]
def liveE2 : List (List Int) := [[1, 2], [2, 3], [1, 3], [1, 2, 3]]
theorem liveE1_left : decide ((leftI liveE1).length ≤ 1) = false := by
  have h0 : stepE liveE1 (earsS liveE1 0).2 = none := by
    rw [stepE_eq]
    show (match (List.range liveE1.length).find? fun i => (earP2 liveE1 (List.replicate 3 true) i).isSome with | none => none | some i => (earP2 liveE1 (List.replicate 3 true) i).map fun p => (i, p)) = none
    decide +kernel
  have h1 := earsS_end (h := liveE1) (k := 0) rfl h0
  have h2 := leftI_len liveE1
  rw [h1] at h2
  have h3 : (earsS liveE1 0).1.length = 0 := rfl
  have h4 : liveE1.length = 3 := rfl
  exact decide_eq_false (by omega)
theorem liveE2_left : decide ((leftI liveE2).length ≤ 1) = true := by
  have s0 : stepE liveE2 (earsS liveE2 0).2 = some (0, 3) := by
    rw [stepE_eq]
    show (match (List.range liveE2.length).find? fun i => (earP2 liveE2 (List.replicate 4 true) i).isSome with | none => none | some i => (earP2 liveE2 (List.replicate 4 true) i).map fun p => (i, p)) = _
    decide +kernel
  have e1 : earsS liveE2 1 = ([(0, 3)], [false, true, true, true]) := earsS_some s0
  have s1 : stepE liveE2 (earsS liveE2 1).2 = some (1, 3) := by
    rw [e1, stepE_eq]
    decide +kernel
  have e2 : earsS liveE2 2 = ([(0, 3), (1, 3)], [false, false, true, true]) := by
    rw [earsS_some s1, e1]
    rfl
  have s2 : stepE liveE2 (earsS liveE2 2).2 = some (2, 3) := by
    rw [e2, stepE_eq]
    decide +kernel
  have e3 : earsS liveE2 3 = ([(0, 3), (1, 3), (2, 3)], [false, false, false, true]) := by
    rw [earsS_some s2, e2]
    rfl
  have s3 : stepE liveE2 (earsS liveE2 3).2 = none := by
    rw [e3, stepE_eq]
    decide +kernel
  have h1 := earsS_end (h := liveE2) (k := 3) (by rw [e3]; rfl) s3
  have h2 := leftI_len liveE2
  rw [h1, e3] at h2
  have h4 : liveE2.length = 4 := rfl
  simp only [List.length_cons, List.length_nil] at h2
  exact decide_eq_true (by omega)
theorem gridI_four {w : World} {A : Option Addr} {l m p q : List Int} {B C D E : Option Addr} {b c d e : Nat} (hB : Row w B (iV l)) (hC : Row w C (iV m)) (hD : Row w D (iV p)) (hE : Row w E (iV q)) (hA : Row w A [.slice B l.length b, .slice C m.length c, .slice D p.length d, .slice E q.length e]) : GridI (PRow w) A [l, m, p, q] := by
  refine ⟨[[.slice B l.length b], [.slice C m.length c], [.slice D p.length d], [.slice E q.length e]], ⟨rfl, fun i x cs h1 h2 => ?_⟩, hA⟩
  match i with
  | 0 => simp at h1 h2; subst h1 h2; exact ⟨⟨B, b, rfl, hB⟩, rfl⟩
  | 1 => simp at h1 h2; subst h1 h2; exact ⟨⟨C, c, rfl, hC⟩, rfl⟩
  | 2 => simp at h1 h2; subst h1 h2; exact ⟨⟨D, d, rfl, hD⟩, rfl⟩
  | 3 => simp at h1 h2; subst h1 h2; exact ⟨⟨E, e, rfl, hE⟩, rfl⟩
  | i + 4 => simp at h1
def live22A (w : World) : World := (((w.alloc (.cells #[.int .i64 1, .int .i64 2] 3)).alloc (.cells #[.int .i64 2, .int .i64 3] 3)).alloc (.cells #[.int .i64 1, .int .i64 3] 3)).alloc (.cells #[.slice (some ⟨w.heap.size, 0, none⟩) 2 2, .slice (some ⟨w.heap.size + 1, 0, none⟩) 2 2, .slice (some ⟨w.heap.size + 2, 0, none⟩) 2 2] 30)
theorem live22A_grid (w : World) : GridI (PRow (live22A w)) (some ⟨w.heap.size + 3, 0, none⟩) liveE1 :=
  gridI_three (l := [1, 2]) (m := [2, 3]) (p := [1, 3]) (b := 2) (c := 2) (d := 2) (row_alloc (row_alloc (row_alloc (row_new _ _ _ _ rfl) _) _) _) (row_alloc (row_alloc (row_new _ _ _ _ (by simp)) _) _) (row_alloc (row_new _ _ _ _ (by simp)) _) (row_new _ _ _ #[_, _, _] (by simp))
def live22B (w : World) : World := ((((w.alloc (.cells #[.int .i64 1, .int .i64 2] 3)).alloc (.cells #[.int .i64 2, .int .i64 3] 3)).alloc (.cells #[.int .i64 1, .int .i64 3] 3)).alloc (.cells #[.int .i64 1, .int .i64 2, .int .i64 3] 3)).alloc (.cells #[.slice (some ⟨w.heap.size, 0, none⟩) 2 2, .slice (some ⟨w.heap.size + 1, 0, none⟩) 2 2, .slice (some ⟨w.heap.size + 2, 0, none⟩) 2 2, .slice (some ⟨w.heap.size + 3, 0, none⟩) 3 3] 30)
theorem live22B_grid (w : World) : GridI (PRow (live22B w)) (some ⟨w.heap.size + 4, 0, none⟩) liveE2 :=
  gridI_four (l := [1, 2]) (m := [2, 3]) (p := [1, 3]) (q := [1, 2, 3]) (b := 2) (c := 2) (d := 2) (e := 3) (row_alloc (row_alloc (row_alloc (row_alloc (row_new _ _ _ _ rfl) _) _) _) _) (row_alloc (row_alloc (row_alloc (row_new _ _ _ _ (by simp)) _) _) _) (row_alloc (row_alloc (row_new _ _ _ _ (by simp)) _) _) (row_alloc (row_new _ _ _ _ (by simp)) _) (row_new _ _ _ #[_, _, _, _] (by simp))
end Go.Proofs.Ytoaciliojdaoaaa

namespace Go.Proofs.Ytoaciliojdaoaaa
open Go.RowKit
attribute [local go_sem] more_cell more_frozen more_more more_setCell more_of_drew more_of_drewN lt_more le_more past_cell past_cell2 past_frozen past_frozen2 past_setCell past_setCell2 mid_cell mid_frozen mid_setCell
attribute [local go_sem ↓] Go.wp_at_zero Go.wp_at_succ

theorem rdw_bS {H : Type} {enc : TypeId × Value → H} {W : World} : RdW enc Try.prog W 4 1 (fun (x : Bool) cs => cs = [.bool x]) := rdw_of (rd_bool Try.underlying4 (by kernel_rfl))
theorem bools_row {w : World} {A : Option Addr} {l : List Bool} {css : List (List Value)} (h : ListR (fun (x : Bool) cs => cs = [.bool x]) 1 l css) (hr : Row w A css.flatten) : Row w A (bL l) := by
  have e : css.flatten = bL l := by
    obtain ⟨h1, h2⟩ := h
    clear hr
    induction css generalizing l with
    | nil => 
      have : l = [] := List.eq_nil_of_length_eq_zero (by simpa using h1.symm)
      subst this
      rfl
    | cons a t ih =>
      match l with
      | [] => simp at h1
      | x :: l =>
        have h0 := (h2 0 x a rfl rfl).1
        rw [h0, List.flatten_cons, ih (by simpa using h1) fun i y cs hy hc => h2 (i + 1) y cs (by simpa using hy) (by simpa using hc)]
        rfl
  rw [← e]
  exact hr
theorem rdw_bools {H : Type} {enc : TypeId × Value → H} {W : World} : RdW enc Try.prog W 57 1 (fun (l : List Bool) cs => ∃ A c, cs = [.slice A l.length c] ∧ l.length ≤ 1000000000000000 ∧ Row W A (bL l) ∧ True) :=
  rdw_map (rdw_slice Try.underlying57 (by kernel_rfl) (by decide) (bytes := 1) (by kernel_rfl) rdw_bS) fun l cs ⟨A, c, css, h1, h2, _, h5, h3, h4⟩ => ⟨A, c, h1, by unfold reachBytes at h5; omega, bools_row h3 h4, trivial⟩
theorem earP_lt {h : List (List Int)} {l : List Bool} {i p : Nat} (hp : earP h l i = some p) : p < h.length := (earP_inv hp).2.2.1
def CmAt (w : World) (n : Nat) (x : Value) (wr : World) : Prop := ∃ j : Nat, j ≤ n ∧ x = .int .i64 j ∧ Grew w wr
theorem row_ears {w : World} {A : Option Addr} {E : List (Nat × Nat)} (h : Row w A (eV E)) {i : Nat} (hi : i < E.length) : ∃ b o, A = some ⟨b, o, none⟩ ∧ b < w.heap.size ∧ w.cell? ⟨b, o + i * 2, none⟩ = some (.int .i64 E[i].1) ∧ w.cell? ⟨b, o + i * 2 + 1, none⟩ = some (.int .i64 E[i].2) := by
  rcases h with h | ⟨b, o, hA, hb, hc⟩
  · have := eV_len E
    rw [h] at this
    simp at this
    omega
  · exact ⟨b, o, hA, hb, hc _ _ (eV_at hi).1, by rw [Nat.add_assoc]; exact hc _ _ (eV_at hi).2⟩
end Go.Proofs.Ytoaciliojdaoaaa

/- Layer 33: which pipes are left, as a set; which may go on. Condition: no more than a million pipes. -/
namespace Go.Proofs.Ytoaciliojdaoaaa
open Go.RowKit Go.WideElems Go.MapKept Go.Maps
attribute [local go_sem] more_cell more_frozen more_more more_setCell more_of_drew more_of_drewN lt_more le_more past_cell past_cell2 past_frozen past_frozen2 past_setCell past_setCell2 mid_cell mid_frozen mid_setCell
attribute [local go_sem ↓] Go.wp_at_zero Go.wp_at_succ

/-- Block b is a set of just the numbers of L, with no more than c entries that were ever put. -/
def SetQ (w : World) (b c : Nat) (L : List Int) : Prop := ∃ (n : Nat) (D : DataW Unit), n ≤ c ∧ w.ownsMap Try.prog 3 unitElem b n D ∧ ∀ x, wfI x → (Maps.has D (.int .i64 x) = true ↔ x ∈ L)
theorem SetQ.kept {w w' : World} {b c : Nat} {L : List Int} {row : Option Nat} (h : SetQ w b c L) (g : w.grownBy w' row) (hr : some b ≠ row) : SetQ w' b c L := by
  obtain ⟨n, D, hn, h, k⟩ := h
  exact ⟨n, D, hn, h.kept g hr, k⟩
theorem grownBy_grew {w w' : World} (g : Grew w w') : w.grownBy w' none := by
  have hb := g.below
  exact ⟨hb.os, hb.tape, hb.output, hb.size, fun i hi _ => hb.block i hi⟩
theorem SetQ.grew {w w' : World} {b c : Nat} {L : List Int} (h : SetQ w b c L) (g : Grew w w') : SetQ w' b c L := h.kept (grownBy_grew g) (by simp)
theorem SetQ.lt {w : World} {b c : Nat} {L : List Int} (h : SetQ w b c L) : b < w.heap.size := by
  obtain ⟨n, D, _, h, _⟩ := h
  exact h.lt
theorem setQ_new (w : World) (b : Nat) (hb : b = w.heap.size) : SetQ (w.alloc (.map #[] 0)) b 0 [] := by
  subst hb
  exact ⟨0, .map [], Nat.le_refl _, World.ownsMap_made w _ _ _, fun x _ => by simp [Maps.has]⟩
section
variable {w : World} {ops : Array Oper} {rest : List Oper} {o : Oper} {a : Act} {Q : Exit → Act → World → Prop} {b c : Nat} {L : List Int}
theorem wpList_qput (hg : o.guard = none) (m x v : Operand) (hop : o.op = Op.mapUpdate 98 m x v) (hm : a.eval m = .map (some b)) (h : SetQ w b c L) (hc : c ≤ 1000000) (z : Int) (hz : wfI z) (hx : a.eval x = .int .i64 z) (hv : a.eval v = .agg #[])
    (hK : ∀ w', SetQ w' b (c + 1) (L ++ [z]) → w.grownBy w' (some b) → wpList Try.prog ops Q rest (a.put o.dst undef) w') : wpList Try.prog ops Q (o :: rest) a w := by
  obtain ⟨n, D, hn, h, k⟩ := h
  refine wpList_mapUpdate_own w hg m x v 98 hop 3 99 law_int Try.underlying98 unitElem b n D hm h (by unfold maxLen; omega) (.int .i64 z) (.agg #[]) (.int .i64 z) hx hv (key_int hz) (.agg []) [] unitElem_mk ?_
  intro w' h' hg'
  refine hK w' ⟨n + 1, _, by omega, h', fun y hy => ?_⟩ hg'
  by_cases e : y = z
  · subst e
    rw [has_put_same h.isMap (law_int.key (key_int hy))]
    simp
  · rw [has_put_other (fun e' => e (by injection e')), k y hy]
    simp [e]
theorem wpList_qhas (hg : o.guard = none) (m x : Operand) (hop : o.op = Op.lookup 98 m x true) (hm : a.eval m = .map (some b)) (h : SetQ w b c L) (z : Int) (hz : wfI z) (hx : a.eval x = .int .i64 z)
    (hK : wpList Try.prog ops Q rest (a.put o.dst (.tuple #[.agg #[], .bool (decide (z ∈ L))])) w) : wpList Try.prog ops Q (o :: rest) a w := by
  obtain ⟨n, D, hn, h, k⟩ := h
  refine wpList_lookup_own_unit w hg m x 98 hop 3 99 law_int Try.underlying98 (zero_unit w) b n D hm h (.int .i64 z) (.int .i64 z) hx (key_int hz) ?_
  have e : Maps.has D (.int .i64 z) = decide (z ∈ L) := by
    have := k z hz
    cases h1 : Maps.has D (.int .i64 z)
    · exact (decide_eq_false (fun h2 => by rw [this.2 h2] at h1; cases h1)).symm
    · exact (decide_eq_true (this.1 h1)).symm
  rw [e]
  exact hK
theorem wpList_qdel (hg : o.guard = none) (m x : Operand) (hop : o.op = Op.call { callee := Callee.builtin Builtin.delete, args := #[m, x], argTypes := #[98, 3] }) (hm : a.eval m = .map (some b)) (h : SetQ w b c L) (z : Int) (hz : wfI z) (hx : a.eval x = .int .i64 z)
    (hK : ∀ w', SetQ w' b c (L.filter fun y => !(y == z)) → w.grownBy w' (some b) → wpList Try.prog ops Q rest (a.put o.dst (.tuple #[])) w') : wpList Try.prog ops Q (o :: rest) a w := by
  obtain ⟨n, D, hn, h, k⟩ := h
  refine wpList_delete_own w hg m x 98 3 hop 99 law_int Try.underlying98 unitElem b n D hm h (.int .i64 z) (.int .i64 z) hx (key_int hz) ?_
  intro w' h' hg'
  refine hK w' ⟨n, _, hn, h', fun y hy => ?_⟩ hg'.grown
  rw [List.mem_filter]
  by_cases e : y = z
  · subst e
    rw [has_del_same]
    simp
  · rw [has_del_other (fun e' => e (by injection e')), k y hy]
    simp [e]
end
def SetQR (w : World) (b r c : Nat) (L : List Int) (left : Int → Bool) (cnt : Nat) : Prop := ∃ (n : Nat) (D : DataW Unit) (lf : Lit → Bool), n ≤ c ∧ w.ranges Try.prog 3 unitElem b r n D lf cnt ∧
  (∀ x, wfI x → (Maps.has D (.int .i64 x) = true ↔ x ∈ L)) ∧ (∀ x, wfI x → lf (.int .i64 x) = left x) ∧ ∀ x, wfI x → left x = true → x ∈ L
theorem SetQR.set {w : World} {b r c cnt : Nat} {L : List Int} {left : Int → Bool} (h : SetQR w b r c L left cnt) : SetQ w b c L := by
  obtain ⟨n, D, lf, hn, h, k, _⟩ := h
  exact ⟨n, D, hn, h.owns, k⟩
theorem SetQR.kept {w w' : World} {b r c cnt : Nat} {L : List Int} {left : Int → Bool} {row : Option Nat} (h : SetQR w b r c L left cnt) (g : w.grownBy w' row) (hb : some b ≠ row) (hr : some r ≠ row) : SetQR w' b r c L left cnt := by
  obtain ⟨n, D, lf, hn, h, k⟩ := h
  exact ⟨n, D, lf, hn, h.kept g hb hr, k⟩
theorem SetQR.grew {w w' : World} {b r c cnt : Nat} {L : List Int} {left : Int → Bool} (h : SetQR w b r c L left cnt) (g : Grew w w') : SetQR w' b r c L left cnt := h.kept (grownBy_grew g) (by simp) (by simp)
theorem SetQR.left_eq {w : World} {b r c cnt : Nat} {L : List Int} {left : Int → Bool} (h : SetQR w b r c L left cnt) : cntOf w b r = cnt := by
  obtain ⟨n, D, lf, hn, h, _⟩ := h
  exact h.left_eq
section
variable {w : World} {ops : Array Oper} {rest : List Oper} {o : Oper} {a : Act} {Q : Exit → Act → World → Prop} {b c : Nat} {L : List Int}
theorem wpList_qrange (hg : o.guard = none) (m : Operand) (hop : o.op = Op.range 98 m) (hm : a.eval m = .map (some b)) (h : SetQ w b c L)
    (hK : ∀ w' cnt, SetQR w' b w.heap.size c L (fun x => decide (x ∈ L)) cnt → w.grownBy w' none → w'.heap.size = w.heap.size + 1 → wpList Try.prog ops Q rest (a.put o.dst (.pointer (some ⟨w.heap.size, 0, none⟩))) w') : wpList Try.prog ops Q (o :: rest) a w := by
  obtain ⟨n, D, hn, h, k⟩ := h
  refine wpList_range_own w hg m 98 hop 3 99 law_int Try.underlying98 unitElem b n D hm h ?_
  intro w' h1 h2 h3
  refine hK w' _ ⟨n, D, Maps.has D, hn, h1, k, fun x hx => ?_, fun x _ hl => by simpa using hl⟩ h2 h3
  have := k x hx
  cases h4 : Maps.has D (.int .i64 x)
  · exact (decide_eq_false (fun h5 => by rw [this.2 h5] at h4; cases h4)).symm
  · exact (decide_eq_true (this.1 h4)).symm
theorem wpList_qnext (hg : o.guard = none) (it : Operand) (hop : o.op = Op.next it false) (r : Nat) (left : Int → Bool) (cnt : Nat) (hit : a.eval it = .pointer (some ⟨r, 0, none⟩)) (h : SetQR w b r c L left cnt)
    (hDone : (∀ x, wfI x → left x = false) → wpList Try.prog ops Q rest (a.put o.dst (.tuple #[.bool false])) w)
    (hMore : ∀ (x : Int) (w' : World) (cnt' : Nat), wfI x → left x = true → x ∈ L → SetQR w' b r c L (fun y => left y && !(y == x)) cnt' → cnt' < cnt → w.grownBy w' (some r) → w'.heap.size = w.heap.size →
      (Instr.entry (.pointer (some ⟨r, 0, none⟩))).run Try.prog w' = .ok (.tuple #[.int .i64 x, .agg #[]]) w' → wpList Try.prog ops Q rest (a.put o.dst (.tuple #[.bool true, .int .i64 x, .agg #[]])) w') : wpList Try.prog ops Q (o :: rest) a w := by
  obtain ⟨n, D, lf, hn, h, k, kl, ks⟩ := h
  refine wpList_next_ranges (α := Int) (β := Unit) w hg it hop 3 law_int unitElem (Value.int .i64) (fun _ => .agg #[]) (fun key kl hkey => by obtain ⟨x, rfl, _⟩ := Maps.keyOf_int_inv Try.underlying3 hkey; exact ⟨x, rfl⟩) (fun v y hv => ⟨(), (unitElem_inv hv).1⟩)
    b r n D lf cnt hit h ?_ ?_
  · intro _ hl
    exact hDone fun x hx => by rw [← kl x hx]; exact hl _
  · intro x _ kl' y w' cnt' hkey hlx _ _ h1 h2 h3 h4 h5
    obtain ⟨x', ex, rfl, hwx⟩ := Maps.keyOf_int_inv Try.underlying3 hkey
    injection ex with _ ex
    subst ex
    have hl : left x = true := by rw [← kl x hwx]; exact hlx
    refine hMore x w' cnt' hwx hl (ks x hwx hl) ⟨n, D, _, hn, h1, k, fun z hz => ?_, fun z hz hlz => ks z hz (by simp at hlz; exact hlz.1)⟩ h2 h3 h4 h5
    simp only
    rw [kl z hz, sameK]
end
/-- Are all that a pipe needs there, and none of them left? -/
def bhI (nd : List (List Int)) (L : List Int) (t : Nat) : Bool := (edgeAt nd t).all fun x => !(decide (x ∈ L)) && (decide (0 ≤ x) && decide (x < nd.length))
def BhAt (w : World) (e L : List Int) (n : Nat) (x : Value) (wr : World) : Prop := ∃ j : Nat, j ≤ e.length ∧ x = .int .i64 j ∧ Grew w wr ∧ ∀ y ∈ e.take j, (!(decide (y ∈ L)) && (decide (0 ≤ y) && decide (y < (n : Int)))) = true
set_option maxHeartbeats 2000000 in
set_option maxRecDepth 100000 in
theorem behind33_any (o : Oth) (nd : List (List Int)) (n : Nat) (hn : nd.length = n) (hw : wfG nd) (hel : ∀ e ∈ nd, e.length ≤ 30) (A : Option Addr) (k b c : Nat) (L : List Int) (t : Nat) (ht : t < n) (w : World) (ra : PipsR w A nd) (hs : SetQ w b c L) :
    Gives Try.prog 70 #[plV o A n k, .map (some b), .int .i64 t] w (.bool (bhI nd L t)) := by
  have RA := Lib.hid ra
  have HS := Lib.hid hs
  have hth : t < nd.length := by omega
  obtain ⟨q, hq⟩ : ∃ q, bhI nd L t = q := ⟨_, rfl⟩
  have HNo : Hid (∀ y ∈ nd[t], (!(decide (y ∈ L)) && (decide (0 ≤ y) && decide (y < (n : Int)))) = false → q = false) := Lib.hid fun y hy h => by
    rw [← hq]
    unfold bhI
    rw [edgeAt_eq hth, List.all_eq_false]
    exact ⟨y, hy, by rw [hn, h]; simp⟩
  have HYes : Hid ((∀ y ∈ nd[t], (!(decide (y ∈ L)) && (decide (0 ≤ y) && decide (y < (n : Int)))) = true) → q = true) := Lib.hid fun h => by
    rw [← hq]
    unfold bhI
    rw [edgeAt_eq hth, List.all_eq_true, hn]
    exact h
  have HWl := Lib.hid (hw _ (List.getElem_mem hth))
  have hl30 := hel _ (List.getElem_mem hth)
  obtain ⟨pb, po, D, d, rfl, hpb, hpc, hpr⟩ := pips_at ra hth
  have HP := Lib.hid (fun W (hW : Grew w W) => And.intro (Nat.lt_of_lt_of_le hpb hW.size) (And.intro ((hW.cell (a := ⟨pb, po + t * 3 + 2, none⟩) hpb).trans hpc) (hpr.grew hW)))
  rw [hq]
  clear hq ra hs hw hel hn hpc hpr hpb
  generalize nd[t] = e at *
  clear hth RA
  unfold Gives plV
  have HB0 : Hid (Blok (w.alloc (.cells (plC o (some ⟨pb, po, none⟩) n k) 51)) w.heap.size 51 (plC o (some ⟨pb, po, none⟩) n k)) := Lib.hid (Blok.new _ _ _ _ rfl)
  have HG0 : Hid (Grew w (w.alloc (.cells (plC o (some ⟨pb, po, none⟩) n k) 51))) := Lib.hid ((Grew.refl w).alloc _)
  go_enter Try.func70, Try.ntmps70
  go_upto_region 1 with fail
  obtain ⟨w1, hw1⟩ : ∃ w1, w1 = w.alloc (.cells (plC o (some ⟨pb, po, none⟩) n k) 51) := ⟨_, rfl⟩
  rw [← hw1] at HB0 HG0 ⊢
  clear hw1
  generalize w.heap.size = g at *
  obtain ⟨b0, _, _, b1, _, _, _⟩ := boxP HB0.out
  obtain ⟨p0, p1, _⟩ := HP.out _ HG0.out
  go_wp2
  clear b0 b1 p0 p1
  go_loopw [18] (fun x wr => BhAt w1 e L n x wr) (fun x _ => e.length - (intOf x).toNat)
  case atStart => exact ⟨0, Nat.zero_le _, rfl, Grew.refl _, by simp⟩
  case round =>
    obtain ⟨j, hj, rfl, hg, hk⟩ := hrel
    have HG := Lib.hid (HG0.out.trans hg)
    have HG1 := Lib.hid hg
    obtain ⟨b0, _, _, b1, _, _, _⟩ := boxP (HB0.out.grew hg)
    have HK := Lib.hid hk
    clear hg hk
    by_cases h1 : j < e.length
    · obtain ⟨b2, o2, rfl, hb2, hc2⟩ := rowI_at (HP.out _ HG.out).2.2 h1
      have hwx := HWl.out _ (List.getElem_mem h1)
      have HNx : Hid ((!(decide (e[j] ∈ L)) && (decide (0 ≤ e[j]) && decide (e[j] < (n : Int)))) = true → ∀ y ∈ e.take (j + 1), (!(decide (y ∈ L)) && (decide (0 ≤ y) && decide (y < (n : Int)))) = true) := Lib.hid fun h y hy => by
        rw [List.take_succ_eq_append_getElem h1] at hy
        rcases List.mem_append.1 hy with hy | hy
        · exact HK.out y hy
        · rw [List.mem_singleton.1 hy]; exact h
      have HF := Lib.hid (HNo.out _ (List.getElem_mem h1))
      have HSx := Lib.hid (HS.out.grew HG.out)
      clear HK HNo HYes
      generalize e[j] = x at *
      obtain ⟨m, hm⟩ : ∃ m, decide (x ∈ L) = m := ⟨_, rfl⟩
      have HM := Lib.hid hm
      rw [hm] at HNx HF
      clear hm
      go_upto_region 5 with (at_lookup; refine wpList_qhas rfl _ _ rfl rfl HSx.out x hwx rfl ?_; rw [HM.out])
      have HG2 := Lib.hid (HG1.out.alloc (.cells #[] 99))
      have HG3 := Lib.hid (HG.out.alloc (.cells #[] 99))
      clear b0 b1
      generalize wr.alloc (.cells #[] 99) = w2 at *
      obtain ⟨b0, _, _, b1, _, _, _⟩ := boxP (HB0.out.grew HG2.out)
      clear hb2 hc2
      cases m
      rotate_left
      · obtain rfl := HF.out (by simp)
        clear HNx HF
        go_wp2
        go_ret
        exact ⟨rfl, HG3.out⟩
      · by_cases h2 : x < 0
        · obtain rfl := HF.out (by rw [decide_eq_false (by omega : ¬ (0 : Int) ≤ x)]; simp)
          have e2 : decide (x < 0) = true := decide_eq_true h2
          clear HNx HF
          go_wp2
          go_ret
          exact ⟨rfl, HG3.out⟩
        · have e2 : decide (x < 0) = false := decide_eq_false h2
          have h2' : 0 ≤ x := by omega
          by_cases h3 : x < (n : Int)
          · have e3 : decide ((n : Int) ≤ x) = false := decide_eq_false (by omega)
            have HN1 := Lib.hid (HNx.out (by rw [decide_eq_true h2', decide_eq_true h3]; rfl))
            clear HNx HF h2
            go_wp2
            exact ⟨⟨j + 1, by omega, by go_num, HG2.out, HN1.out⟩, by simp only [intOf]; omega⟩
          · have e3 : decide ((n : Int) ≤ x) = true := decide_eq_true (by omega)
            have h3' : (n : Int) ≤ x := by omega
            obtain rfl := HF.out (by rw [decide_eq_false h3]; simp)
            clear HNx HF h2 h3
            go_wp2
            go_ret
            exact ⟨rfl, HG3.out⟩
    · obtain rfl : j = e.length := by omega
      rw [List.take_length] at HK
      obtain rfl := HYes.out HK.out
      clear HK HYes HNo
      go_wp2
      go_ret
      exact ⟨rfl, HG.out⟩
/-- The least one that may go on, of those that have been met. -/
def LstP (L : List Int) (bh : Int → Bool) (left : Int → Bool) (out : Int) : Prop :=
  (out = -1 ∧ ∀ x, wfI x → x ∈ L → left x = false → bh x = false) ∨ (0 ≤ out ∧ out ∈ L ∧ bh out = true ∧ ∀ x, wfI x → x ∈ L → left x = false → bh x = true → out ≤ x)
theorem lst_put {L : List Int} {bh left : Int → Bool} {out x : Int} (P : LstP L bh left out) (hx : x ∈ L) (h0 : 0 ≤ x) :
    ((out < 0 ∨ x < out) → bh x = true → LstP L bh (fun y => left y && !(y == x)) x) ∧ ((¬ (out < 0 ∨ x < out) ∨ bh x = false) → LstP L bh (fun y => left y && !(y == x)) out) := by
  have hl : ∀ y, (left y && !(y == x)) = false → left y = false ∨ y = x := fun y hy => by
    by_cases e : y = x
    · exact Or.inr e
    · have : (!(y == x)) = true := by simpa using e
      rw [this, Bool.and_true] at hy
      exact Or.inl hy
  constructor
  · intro h1 h2
    refine Or.inr ⟨h0, hx, h2, fun y hy hyL hly hby => ?_⟩
    rcases hl y hly with h3 | h3
    · rcases P with ⟨e, h4⟩ | ⟨h4, _, _, h5⟩
      · rw [h4 y hy hyL h3] at hby; cases hby
      · have := h5 y hy hyL h3 hby
        omega
    · omega
  · intro h1
    rcases P with ⟨e, h4⟩ | ⟨h4, h5, h6, h7⟩
    · refine Or.inl ⟨e, fun y hy hyL hly => ?_⟩
      rcases hl y hly with h3 | h3
      · exact h4 y hy hyL h3
      · subst h3
        rcases h1 with h1 | h1
        · omega
        · exact h1
    · refine Or.inr ⟨h4, h5, h6, fun y hy hyL hly hby => ?_⟩
      rcases hl y hly with h3 | h3
      · exact h7 y hy hyL h3 hby
      · subst h3
        rcases h1 with h1 | h1
        · omega
        · rw [h1] at hby; cases hby
def LsAt (w : World) (b r c : Nat) (L : List Int) (bh : Int → Bool) (x5 : Value) (wr : World) : Prop := ∃ (left : Int → Bool) (cnt : Nat) (out : Int), x5 = .int .i64 out ∧ Grew w wr ∧ SetQR wr b r c L left cnt ∧ LstP L bh left out
set_option maxHeartbeats 2000000 in
set_option maxRecDepth 100000 in
theorem least33_any (o : Oth) (nd : List (List Int)) (n : Nat) (hn : nd.length = n) (hw : wfG nd) (hel : ∀ e ∈ nd, e.length ≤ 30) (A : Option Addr) (k b c : Nat) (L : List Int) (hL : ∀ x ∈ L, ∃ t : Nat, x = (t : Int) ∧ t < n) (fin : Int)
    (hfin : ∀ out, LstP L (fun x => bhI nd L x.toNat) (fun _ => false) out → out = fin) (w : World) (ra : PipsR w A nd) (hs : SetQ w b c L) :
    Gives Try.prog 46 #[plV o A n k, .map (some b)] w (.int .i64 fin) := by
  have HBh := Lib.hid (fun t (ht : t < n) W (hW : Grew w W) => behind33_any o nd n hn hw hel A k b c L t ht W (ra.grew hW) (hs.grew hW))
  have HS := Lib.hid hs
  have HL := Lib.hid hL
  have HFin := Lib.hid hfin
  have hbl := hs.lt
  clear ra hs hw hel hn hL hfin
  obtain ⟨bh, hbh⟩ : ∃ bh, (fun x : Int => bhI nd L x.toNat) = bh := ⟨_, rfl⟩
  have HBh2 : Hid (∀ (t : Nat), t < n → ∀ W, Grew w W → Gives Try.prog 70 #[plV o A n k, .map (some b), .int .i64 (t : Int)] W (.bool (bh t))) := Lib.hid fun t ht W hW => by
    have := HBh.out t ht W hW
    rw [← hbh]
    simpa using this
  rw [hbh] at HFin
  clear hbh HBh
  unfold Gives
  unfold plV at *
  have HB0 : Hid (Blok (w.alloc (.cells (plC o A n k) 51)) w.heap.size 51 (plC o A n k)) := Lib.hid (Blok.new _ _ _ _ rfl)
  have HG0 : Hid (Grew w (w.alloc (.cells (plC o A n k) 51))) := Lib.hid ((Grew.refl w).alloc _)
  go_enter Try.func46, Try.ntmps46
  go_upto_region 1 with fail
  obtain ⟨w1, hw1⟩ : ∃ w1, w1 = w.alloc (.cells (plC o A n k) 51) := ⟨_, rfl⟩
  rw [← hw1] at HB0 HG0 ⊢
  clear hw1
  generalize w.heap.size = g at *
  go_wp2_with (at_range; refine wpList_qrange rfl _ rfl rfl (HS.out.grew HG0.out) ?_; intro w4 cnt hr4 hg4 hs4)
  go_frame
  have hw1l := HG0.out.size
  have HG4 : Hid (Grew w1 w4) := Lib.hid ((Grew.refl w1).grown hg4 (fun k hk => by cases hk))
  have H0 : Hid (LsAt w1 b w1.heap.size c L bh (.int .i64 (-1)) w4) := Lib.hid ⟨_, cnt, -1, rfl, HG4.out, hr4, Or.inl ⟨rfl, fun x _ hx hl => by simp [hx] at hl⟩⟩
  have hrb : b < w1.heap.size := (HS.out.grew HG0.out).lt
  have hrg : w1.heap.size ≤ w1.heap.size := Nat.le_refl _
  clear hr4 hg4 hs4 HG4
  generalize hrr : w1.heap.size = r at *
  go_loopw [5] (fun x wr => LsAt w1 b r c L bh x wr) (fun _ wr => cntOf wr b r)
  case atStart => exact H0.out
  case round =>
    obtain ⟨left, cnt2, out, rfl, hg, hR, hP⟩ := hrel
    have HG := Lib.hid hg
    have HR := Lib.hid hR
    have HP := Lib.hid hP
    have hcnt := hR.left_eq
    clear hg hR hP H0
    go_wp2_with (at_next; refine wpList_qnext rfl _ rfl r left cnt2 rfl HR.out ?_ ?_)
    · intro hdone
      have hfn : out = fin := HFin.out out (by
        rcases HP.out with ⟨h1, h2⟩ | ⟨h1, h2, h3, h4⟩
        · exact Or.inl ⟨h1, fun x hx hxL _ => h2 x hx hxL (hdone x hx)⟩
        · exact Or.inr ⟨h1, h2, h3, fun x hx hxL _ hb => h4 x hx hxL (hdone x hx) hb⟩)
      clear hdone hcnt
      subst hfn
      go_wp2
      go_ret
      exact ⟨rfl, HG0.out.trans HG.out⟩
    · intro x w2 cnt3 hwx hlx hxL hr2 hlt hg2 hs2 hen
      obtain ⟨t, rfl, htn⟩ := HL.out x hxL
      have HG5 := Lib.hid (grew_map HG.out (by rw [hrr]; exact Nat.le_refl _) hg2)
      have HR5 := Lib.hid hr2
      have HPut := Lib.hid (lst_put HP.out hxL (by omega))
      have hcl : cntOf w2 b r = cnt3 := hr2.left_eq
      have hlt2 : cnt3 < cntOf wr b r := by rw [hcnt]; exact hlt
      clear hr2 hg2 hs2 hlx hxL HP HR hcnt hlt hcl
      have HBt := Lib.hid (HBh2.out t htn)
      unfold plC at HBt
      obtain ⟨b0, d0, d1, b1, d3, d4, d5⟩ := boxP (HB0.out.grew HG5.out)
      rcases hb : bh (t : Int) with _ | _
      · rw [hb] at HBt HPut
        have HPn := Lib.hid (HPut.out.2 (Or.inr rfl))
        clear HPut hb
        by_cases h1 : out < 0
        · have e1 : decide (out < 0) = true := decide_eq_true h1
          go_wp2_with (go_at_call 70; (with_reducible refine (HBt.out _ (HG0.out.trans HG5.out)).grows.mono ?_); rintro e w6 ⟨rfl, hg6⟩; have HG6 := Lib.hid (HG5.out.trans hg6); have HR6 := Lib.hid (HR5.out.grew hg6); clear hg6)
          exact ⟨⟨_, cnt3, out, rfl, HG6.out, HR6.out, HPn.out⟩, by rw [HR6.out.left_eq]; exact hlt2⟩
        · have e1 : decide (out < 0) = false := decide_eq_false h1
          have h1' : 0 ≤ out := by omega
          by_cases h2 : (t : Int) < out
          · have e2 : decide ((t : Int) < out) = true := decide_eq_true h2
            go_wp2_with (go_at_call 70; (with_reducible refine (HBt.out _ (HG0.out.trans HG5.out)).grows.mono ?_); rintro e w6 ⟨rfl, hg6⟩; have HG6 := Lib.hid (HG5.out.trans hg6); have HR6 := Lib.hid (HR5.out.grew hg6); clear hg6)
            exact ⟨⟨_, cnt3, out, rfl, HG6.out, HR6.out, HPn.out⟩, by rw [HR6.out.left_eq]; exact hlt2⟩
          · have e2 : decide ((t : Int) < out) = false := decide_eq_false h2
            have h2' : out ≤ (t : Int) := by omega
            clear h1 h2
            go_wp2
            exact ⟨⟨_, cnt3, out, rfl, HG5.out, HR5.out, HPn.out⟩, by rw [HR5.out.left_eq]; exact hlt2⟩
      · rw [hb] at HBt HPut
        clear hb
        by_cases h1 : out < 0
        · have e1 : decide (out < 0) = true := decide_eq_true h1
          have HPn := Lib.hid (HPut.out.1 (Or.inl h1) rfl)
          clear HPut
          go_wp2_with (go_at_call 70; (with_reducible refine (HBt.out _ (HG0.out.trans HG5.out)).grows.mono ?_); rintro e w6 ⟨rfl, hg6⟩; have HG6 := Lib.hid (HG5.out.trans hg6); have HR6 := Lib.hid (HR5.out.grew hg6); clear hg6)
          exact ⟨⟨_, cnt3, (t : Int), rfl, HG6.out, HR6.out, HPn.out⟩, by rw [HR6.out.left_eq]; exact hlt2⟩
        · have e1 : decide (out < 0) = false := decide_eq_false h1
          have h1' : 0 ≤ out := by omega
          by_cases h2 : (t : Int) < out
          · have e2 : decide ((t : Int) < out) = true := decide_eq_true h2
            have HPn := Lib.hid (HPut.out.1 (Or.inr h2) rfl)
            clear HPut
            go_wp2_with (go_at_call 70; (with_reducible refine (HBt.out _ (HG0.out.trans HG5.out)).grows.mono ?_); rintro e w6 ⟨rfl, hg6⟩; have HG6 := Lib.hid (HG5.out.trans hg6); have HR6 := Lib.hid (HR5.out.grew hg6); clear hg6)
            exact ⟨⟨_, cnt3, (t : Int), rfl, HG6.out, HR6.out, HPn.out⟩, by rw [HR6.out.left_eq]; exact hlt2⟩
          · have e2 : decide ((t : Int) < out) = false := decide_eq_false h2
            have h2' : out ≤ (t : Int) := by omega
            have HPn := Lib.hid (HPut.out.2 (Or.inl (by omega)))
            clear HPut h1 h2
            go_wp2
            exact ⟨⟨_, cnt3, out, rfl, HG5.out, HR5.out, HPn.out⟩, by rw [HR5.out.left_eq]; exact hlt2⟩
end Go.Proofs.Ytoaciliojdaoaaa

/- Layer 33: in which order all may go on: plain mathematics. No condition. -/
namespace Go.Proofs.Ytoaciliojdaoaaa

theorem thB_on {l : List Bool} {i k : Nat} (hi : i < l.length) : thB (l.set i true) k = (thB l k || (k == i)) := by
  unfold thB
  rw [List.getD_eq_getElem?_getD, List.getD_eq_getElem?_getD, List.getElem?_set]
  by_cases e : i = k
  · subst e
    simp [hi]
  · rw [if_neg e]
    have : (k == i) = false := by simpa using fun e' => e e'.symm
    rw [this, Bool.or_false]
/-- May a pipe go on? -/
def rdyN (nd : List (List Int)) (d : List Bool) (t : Nat) : Bool := !(thB d t) && (edgeAt nd t).all fun x => thI nd.length d x
def stepR (nd : List (List Int)) (d : List Bool) : Option Nat := (List.range nd.length).find? (rdyN nd d)
def ordS (nd : List (List Int)) : Nat → List Nat × List Bool
  | 0 => ([], List.replicate nd.length false)
  | k + 1 => match stepR nd (ordS nd k).2 with
    | none => ordS nd k
    | some t => ((ordS nd k).1 ++ [t], (ordS nd k).2.set t true)
theorem ordS_none {nd : List (List Int)} {k : Nat} (hs : stepR nd (ordS nd k).2 = none) : ordS nd (k + 1) = ordS nd k := by
  show (match stepR nd (ordS nd k).2 with | none => ordS nd k | some t => ((ordS nd k).1 ++ [t], (ordS nd k).2.set t true)) = _
  rw [hs]
theorem ordS_some {nd : List (List Int)} {k t : Nat} (hs : stepR nd (ordS nd k).2 = some t) : ordS nd (k + 1) = ((ordS nd k).1 ++ [t], (ordS nd k).2.set t true) := by
  show (match stepR nd (ordS nd k).2 with | none => ordS nd k | some t => ((ordS nd k).1 ++ [t], (ordS nd k).2.set t true)) = _
  rw [hs]
theorem stepR_inv {nd : List (List Int)} {d : List Bool} {t : Nat} (hs : stepR nd d = some t) : t < nd.length ∧ rdyN nd d t = true ∧ ∀ j, j < t → rdyN nd d j = false := by
  unfold stepR at hs
  rw [List.find?_range_eq_some] at hs
  exact ⟨List.mem_range.1 hs.2.1, hs.1, fun j hj => by simpa using hs.2.2 j hj⟩
theorem stepR_none {nd : List (List Int)} {d : List Bool} (hs : stepR nd d = none) : ∀ j, j < nd.length → rdyN nd d j = false := by
  unfold stepR at hs
  rw [List.find?_range_eq_none] at hs
  exact fun j hj => by simpa using hs j hj
theorem ordS_dlen (nd : List (List Int)) (k : Nat) : (ordS nd k).2.length = nd.length := by
  induction k with
  | zero => simp [ordS]
  | succ k ih =>
    cases hs : stepR nd (ordS nd k).2 with
    | none => rw [ordS_none hs]; exact ih
    | some t => rw [ordS_some hs]; simpa using ih
theorem rdyN_inv {nd : List (List Int)} {d : List Bool} {t : Nat} (h : rdyN nd d t = true) : thB d t = false ∧ ∀ x ∈ edgeAt nd t, ∃ z : Nat, x = (z : Int) ∧ z < nd.length ∧ thB d z = true := by
  unfold rdyN at h
  rw [Bool.and_eq_true, List.all_eq_true] at h
  exact ⟨by simpa using h.1, fun x hx => by
    obtain ⟨z, h1, h2, h3⟩ := thI_in (h.2 x hx)
    exact ⟨z, h1, h2, h3⟩⟩
structure OrdI (nd : List (List Int)) (l : List Nat) (d : List Bool) : Prop where
  nodup : l.Nodup
  mem : ∀ t, t ∈ l ↔ t < nd.length ∧ thB d t = true
  needs : ∀ (j : Nat) (hj : j < l.length), ∀ x ∈ edgeAt nd l[j], ∃ z : Nat, x = (z : Int) ∧ z < nd.length ∧ z ∈ l.take j
theorem ordInv (nd : List (List Int)) (k : Nat) : OrdI nd (ordS nd k).1 (ordS nd k).2 := by
  induction k with
  | zero =>
    refine ⟨List.nodup_nil, fun t => ⟨fun h => (by cases h), fun h => ?_⟩, fun j hj => by simp [ordS] at hj⟩
    exfalso
    have h2 : thB (List.replicate nd.length false) t = true := h.2
    have h3 := thB_lt h2
    rw [thB_at h3] at h2
    simp at h2
  | succ k ih =>
    cases hs : stepR nd (ordS nd k).2 with
    | none => rw [ordS_none hs]; exact ih
    | some t =>
      obtain ⟨ht, hr, _⟩ := stepR_inv hs
      obtain ⟨h1, h2⟩ := rdyN_inv hr
      have hdl := ordS_dlen nd k
      rw [ordS_some hs]
      generalize (ordS nd k).1 = l at *
      generalize (ordS nd k).2 = d at *
      have hnot : t ∉ l := fun hm => by
        have := ((ih.mem t).1 hm).2
        rw [h1] at this; cases this
      refine ⟨?_, fun x => ?_, fun j hj x hx => ?_⟩
      · rw [List.nodup_append]
        exact ⟨ih.nodup, by simp, fun a ha b hb e => by simp at hb; subst hb; subst e; exact hnot ha⟩
      · rw [List.mem_append, ih.mem, thB_on (by omega), Bool.or_eq_true, beq_iff_eq, List.mem_singleton]
        constructor
        · rintro (h | h)
          · exact ⟨h.1, Or.inl h.2⟩
          · subst h; exact ⟨ht, Or.inr rfl⟩
        · rintro ⟨h3, h4 | h4⟩
          · exact Or.inl ⟨h3, h4⟩
          · exact Or.inr h4
      · simp only at hj hx ⊢
        by_cases hjl : j < l.length
        · rw [List.getElem_append_left hjl] at hx
          obtain ⟨z, z1, z2, z3⟩ := ih.needs j hjl x hx
          exact ⟨z, z1, z2, by rw [List.take_append_of_le_length (by omega)]; exact z3⟩
        · have hje : j = l.length := by simp at hj; omega
          subst hje
          rw [List.getElem_append_right (Nat.le_refl _)] at hx
          simp at hx
          obtain ⟨z, z1, z2, z3⟩ := h2 x hx
          exact ⟨z, z1, z2, by rw [List.take_append_of_le_length (Nat.le_refl _), List.take_length]; exact (ih.mem z).2 ⟨z2, z3⟩⟩
theorem ordS_le (nd : List (List Int)) (k : Nat) : (ordS nd k).1.length ≤ nd.length := by
  have I := ordInv nd k
  have := I.nodup.length_le_of_subset (l₂ := List.range nd.length) fun p hp => List.mem_range.2 ((I.mem p).1 hp).1
  simpa using this
theorem ordS_stop {nd : List (List Int)} {k : Nat} (hs : stepR nd (ordS nd k).2 = none) (m : Nat) : ordS nd (k + m) = ordS nd k := by
  induction m with
  | zero => rfl
  | succ m ih =>
    have : stepR nd (ordS nd (k + m)).2 = none := by rw [ih]; exact hs
    rw [← Nat.add_assoc, ordS_none this, ih]
theorem ordS_end {nd : List (List Int)} {k : Nat} (hl : (ordS nd k).1.length = k) (hs : stepR nd (ordS nd k).2 = none) : ordS nd nd.length = ordS nd k := by
  have := ordS_le nd k
  have e := ordS_stop hs (nd.length - k)
  rwa [show k + (nd.length - k) = nd.length by omega] at e
/-- Those that are left. -/
def LL (n : Nat) (d : List Bool) : List Int := ((List.range n).filter fun t => !(thB d t)).map fun (t : Nat) => (t : Int)
theorem LL_mem {n : Nat} {d : List Bool} {x : Int} : x ∈ LL n d ↔ ∃ t : Nat, x = (t : Int) ∧ t < n ∧ thB d t = false := by
  unfold LL
  rw [List.mem_map]
  constructor
  · rintro ⟨t, ht, rfl⟩
    rw [List.mem_filter] at ht
    exact ⟨t, rfl, List.mem_range.1 ht.1, by simpa using ht.2⟩
  · rintro ⟨t, rfl, h1, h2⟩
    exact ⟨t, List.mem_filter.2 ⟨List.mem_range.2 h1, by rw [h2]; rfl⟩, rfl⟩
theorem bh_rdy {nd : List (List Int)} {d : List Bool} {t : Nat} (h : thB d t = false) : bhI nd (LL nd.length d) t = rdyN nd d t := by
  unfold bhI rdyN
  rw [h, Bool.not_false, Bool.true_and]
  congr 1
  funext x
  unfold thI
  by_cases h1 : 0 ≤ x ∧ x < nd.length
  · obtain ⟨h1, h2⟩ := h1
    rw [decide_eq_true h1, decide_eq_true h2]
    obtain ⟨z, rfl⟩ : ∃ z : Nat, x = (z : Int) := ⟨x.toNat, by omega⟩
    rw [Int.toNat_natCast]
    cases hz : thB d z
    · rw [decide_eq_true (LL_mem.2 ⟨z, rfl, by omega, hz⟩)]
      rfl
    · rw [decide_eq_false (fun hm => by
        obtain ⟨y, e, _, hy⟩ := LL_mem.1 hm
        have : y = z := by omega
        subst this
        rw [hz] at hy; cases hy)]
      rfl
  · by_cases h3 : 0 ≤ x
    · rw [decide_eq_false (fun h => h1 ⟨h3, h⟩)]; simp
    · rw [decide_eq_false h3]; simp
def nxtR (o : Option Nat) : Int := match o with | some t => (t : Int) | none => -1
theorem wfI_nat {n : Nat} (h : n ≤ 1000000) : wfI (n : Int) := by
  unfold wfI
  have h1 : Go.IntKind.i64.min = -9223372036854775808 := by decide
  have h2 : Go.IntKind.i64.max = 9223372036854775807 := by decide
  simp only [Go.Lit.wf, h1, h2, Bool.and_eq_true, decide_eq_true_eq]
  omega
theorem lst_next {nd : List (List Int)} {d : List Bool} (hn : nd.length ≤ 1000) {out : Int} (P : LstP (LL nd.length d) (fun x => bhI nd (LL nd.length d) x.toNat) (fun _ => false) out) : out = nxtR (stepR nd d) := by
  obtain ⟨f, hf⟩ : ∃ f, (fun x : Int => bhI nd (LL nd.length d) x.toNat) = f := ⟨_, rfl⟩
  have key : ∀ t : Nat, t < nd.length → thB d t = false → f (t : Int) = rdyN nd d t := fun t _ h => by
    rw [← hf]
    show bhI nd (LL nd.length d) ((t : Int).toNat) = _
    rw [Int.toNat_natCast, bh_rdy h]
  rw [hf] at P
  clear hf
  cases hs : stepR nd d with
  | none =>
    have hno := stepR_none hs
    rcases P with ⟨e, _⟩ | ⟨_, h2, h3, _⟩
    · exact e
    · obtain ⟨t, rfl, h4, h5⟩ := LL_mem.1 h2
      rw [key t h4 h5, hno t h4] at h3
      cases h3
  | some t =>
    obtain ⟨h1, h2, h3⟩ := stepR_inv hs
    have h4 := (rdyN_inv h2).1
    have hm : (t : Int) ∈ LL nd.length d := LL_mem.2 ⟨t, rfl, h1, h4⟩
    rcases P with ⟨_, hno⟩ | ⟨_, g2, g3, g4⟩
    · have := hno t (wfI_nat (by omega)) hm rfl
      rw [key t h1 h4, h2] at this
      cases this
    · obtain ⟨z, rfl, g5, g6⟩ := LL_mem.1 g2
      rw [key z g5 g6] at g3
      have g7 := g4 t (wfI_nat (by omega)) hm rfl (by rw [key t h1 h4]; exact h2)
      have : ¬ z < t := fun h => by rw [h3 z h] at g3; cases g3
      show (z : Int) = (t : Int)
      omega
/-- Levels: of the needs, and one more. -/
def maxL (lv : List Int) (e : List Int) : Int := e.foldl (fun h x => max h (lv.getD x.toNat 0)) 0
def lvS (nd : List (List Int)) (l : List Nat) : List Int := l.foldl (fun lv i => lv.set i (maxL lv (edgeAt nd i) + 1)) (List.replicate nd.length 0)
theorem lvS_snoc (nd : List (List Int)) (l : List Nat) (i : Nat) : lvS nd (l ++ [i]) = (lvS nd l).set i (maxL (lvS nd l) (edgeAt nd i) + 1) := by
  unfold lvS
  rw [List.foldl_append]
  rfl
theorem lvS_len (nd : List (List Int)) (l : List Nat) : (lvS nd l).length = nd.length := by
  unfold lvS
  have : ∀ (l : List Nat) (lv : List Int), (l.foldl (fun lv i => lv.set i (maxL lv (edgeAt nd i) + 1)) lv).length = lv.length := by
    intro l
    induction l with
    | nil => intro lv; rfl
    | cons a t ih => intro lv; rw [List.foldl_cons, ih]; simp
  rw [this]; simp
end Go.Proofs.Ytoaciliojdaoaaa

/- Layer 33: pipes whose needs rise in rank may all go on, one after the other: plain mathematics. No condition. -/
namespace Go.Proofs.Ytoaciliojdaoaaa

/-- Of a list that isn't empty, one whose rank no other's exceeds. -/
theorem max_of (r : Nat → Int) (l : List Nat) (h : l ≠ []) : ∃ t ∈ l, ∀ z ∈ l, r z ≤ r t := by
  induction l with
  | nil => exact absurd rfl h
  | cons a l ih =>
    by_cases hl : l = []
    · subst hl
      exact ⟨a, by simp, fun z hz => by simp at hz; subst hz; exact Int.le_refl _⟩
    · obtain ⟨t, ht, hm⟩ := ih hl
      by_cases c : r t ≤ r a
      · exact ⟨a, by simp, fun z hz => by
          rcases List.mem_cons.1 hz with rfl | hz
          · exact Int.le_refl _
          · exact Int.le_trans (hm z hz) c⟩
      · exact ⟨t, by simp [ht], fun z hz => by
          rcases List.mem_cons.1 hz with rfl | hz
          · omega
          · exact hm z hz⟩
/-- The needs of each are there, and of a higher rank. -/
def RiseI (nd : List (List Int)) (r : Nat → Int) : Prop := ∀ t, t < nd.length → ∀ x ∈ edgeAt nd t, ∃ z : Nat, x = (z : Int) ∧ z < nd.length ∧ r t < r z
theorem rise_ready {nd : List (List Int)} {r : Nat → Int} (h : RiseI nd r) (d : List Bool) (hu : ∃ t, t < nd.length ∧ thB d t = false) : ∃ t, t < nd.length ∧ rdyN nd d t = true := by
  obtain ⟨t0, ht0, hd0⟩ := hu
  have hm : ∀ t, t ∈ (List.range nd.length).filter (fun t => !(thB d t)) ↔ t < nd.length ∧ thB d t = false := fun t => by
    rw [List.mem_filter, List.mem_range]
    simp
  obtain ⟨t, ht, hmax⟩ := max_of r ((List.range nd.length).filter fun t => !(thB d t)) (fun e => by
    have := (hm t0).2 ⟨ht0, hd0⟩
    rw [e] at this
    cases this)
  obtain ⟨htn, htd⟩ := (hm t).1 ht
  refine ⟨t, htn, ?_⟩
  unfold rdyN
  rw [Bool.and_eq_true, List.all_eq_true]
  refine ⟨by rw [htd]; rfl, fun x hx => ?_⟩
  obtain ⟨z, rfl, hz, hr⟩ := h t htn x hx
  show thI nd.length d (z : Int) = true
  rw [thI_nat hz]
  cases hd : thB d z with
  | true => rfl
  | false =>
    have := hmax z ((hm z).2 ⟨hz, hd⟩)
    omega
theorem rise_step {nd : List (List Int)} {r : Nat → Int} (h : RiseI nd r) {d : List Bool} (hs : stepR nd d = none) : ∀ t, t < nd.length → thB d t = true := fun t ht => by
  cases hd : thB d t with
  | true => rfl
  | false =>
    obtain ⟨z, hz, hr⟩ := rise_ready h d ⟨t, ht, hd⟩
    rw [stepR_none hs z hz] at hr
    cases hr
/-- All may go on. -/
theorem rise_all {nd : List (List Int)} {r : Nat → Int} (h : RiseI nd r) : ∀ k, k ≤ nd.length → (ordS nd k).1.length = k := by
  intro k
  induction k with
  | zero => intro _; rfl
  | succ k ih =>
    intro hk
    have ihk := ih (by omega)
    cases hs : stepR nd (ordS nd k).2 with
    | some t => rw [ordS_some hs]; simp [ihk]
    | none =>
      exfalso
      have hall := rise_step h hs
      have I := ordInv nd k
      have := (List.nodup_range (n := nd.length)).length_le_of_subset (l₂ := (ordS nd k).1) fun p hp => (I.mem p).2 ⟨List.mem_range.1 hp, hall p (List.mem_range.1 hp)⟩
      rw [List.length_range] at this
      omega
theorem rise_order {nd : List (List Int)} {r : Nat → Int} (h : RiseI nd r) : (ordS nd nd.length).1.length = nd.length := rise_all h _ (Nat.le_refl _)
/-- One that needs all others goes last. -/
theorem ord_last {nd : List (List Int)} {dr : Nat} (hn : dr < nd.length) (hl : (ordS nd nd.length).1.length = nd.length) (hd : ∀ z, z < nd.length → z ≠ dr → (z : Int) ∈ edgeAt nd dr) : (ordS nd nd.length).1[nd.length - 1]? = some dr := by
  have I := ordInv nd nd.length
  generalize (ordS nd nd.length).1 = l at *
  generalize (ordS nd nd.length).2 = d at *
  have hsub : ∀ p, p < nd.length → p ∈ l := by
    intro p hp
    have hle : l.length ≤ nd.length := by omega
    refine Classical.byContradiction fun hc => ?_
    have hnd : (p :: l).Nodup := List.nodup_cons.2 ⟨hc, I.nodup⟩
    have := hnd.length_le_of_subset (l₂ := List.range nd.length) fun q hq => by
      rcases List.mem_cons.1 hq with rfl | hq
      · exact List.mem_range.2 hp
      · exact List.mem_range.2 ((I.mem q).1 hq).1
    rw [List.length_range, List.length_cons] at this
    omega
  obtain ⟨j, hj, hjd⟩ := List.mem_iff_getElem.1 (hsub dr hn)
  have hlen : nd.length - 1 ≤ (l.take j).length := by
    have hnd2 : ((List.range nd.length).filter (fun z => z != dr)).Nodup := List.nodup_range.filter _
    have h1 := hnd2.length_le_of_subset (l₂ := l.take j) fun z hz => by
      rw [List.mem_filter, List.mem_range] at hz
      have hzd : z ≠ dr := by simpa using hz.2
      obtain ⟨y, hy, _, hy2⟩ := I.needs j hj (z : Int) (by rw [hjd]; exact hd z hz.1 hzd)
      have : z = y := by omega
      subst this
      exact hy2
    have h2 : nd.length ≤ ((List.range nd.length).filter (fun z => z != dr)).length + 1 := by
      have := (List.nodup_range (n := nd.length)).length_le_of_subset (l₂ := dr :: (List.range nd.length).filter (fun z => z != dr)) fun p hp => by
        by_cases e : p = dr
        · subst e; simp
        · exact List.mem_cons_of_mem _ (List.mem_filter.2 ⟨hp, by simpa using e⟩)
      rwa [List.length_range, List.length_cons] at this
    omega
  rw [List.length_take] at hlen
  have : j = nd.length - 1 := by omega
  subst this
  rw [List.getElem?_eq_getElem hj, hjd]
end Go.Proofs.Ytoaciliojdaoaaa

namespace Go.Proofs.Ytoaciliojdaoaaa

/-- What each of a plan's pipes needs: the driver all others, any other the tables that filter it. -/
def PipN (core : Nat) (late : List La) (order : List Int) (fl : List Fl) (nd : List (List Int)) : Prop :=
  nd.length = core + late.length ∧ ∀ t : Nat, t < nd.length → ∀ x : Int, x ∈ edgeAt nd t ↔ if order.head? = some (t : Int) then ∃ z : Nat, x = (z : Int) ∧ z < nd.length ∧ z ≠ t else ∃ y ∈ fl, y.t = (t : Int) ∧ y.f = x
theorem pip_rise {cl : Int → Int → Int} {core : Nat} {late : List La} {order : List Int} {fl : List Fl} {nd : List (List Int)} (hf : ∀ y ∈ fl, y ∈ allI cl core late order) (ho : ∀ z : Nat, z < core → (z : Int) ∈ order) (hp : PipN core late order fl nd) : RiseI nd (risR core (jsI late) order) := by
  intro t ht x hx
  have hj : (jsI late).length = late.length := by simp [jsI]
  have h := (hp.2 t ht x).1 hx
  by_cases c : order.head? = some (t : Int)
  · rw [if_pos c] at h
    obtain ⟨z, rfl, hz, hzt⟩ := h
    refine ⟨z, rfl, hz, ?_⟩
    have := ris_ge (js := jsI late) (order := order) (t := z) ho (by have := hp.1; omega) (fun e => by
      rw [c] at e
      injection e with e
      omega)
    rw [show risR core (jsI late) order t = -1 from if_pos c]
    omega
  · rw [if_neg c] at h
    obtain ⟨y, hy, hyt, rfl⟩ := h
    obtain ⟨f, t', h1, h2, h3, _⟩ := allI_mem (hf y hy)
    exact ⟨f, h1, by have := hp.1; omega, ris_up (hf y hy) h1 hyt⟩
/-- All pipes may go on, one after the other, and the driver's goes last. -/
theorem pip_order {cl : Int → Int → Int} {core : Nat} {late : List La} {order : List Int} {fl : List Fl} {nd : List (List Int)} (hf : ∀ y ∈ fl, y ∈ allI cl core late order) (ho : ∀ z : Nat, z < core → (z : Int) ∈ order) (hp : PipN core late order fl nd) : (ordS nd nd.length).1.length = nd.length := rise_order (pip_rise hf ho hp)
theorem pip_last {cl : Int → Int → Int} {core : Nat} {late : List La} {order : List Int} {fl : List Fl} {nd : List (List Int)} (hf : ∀ y ∈ fl, y ∈ allI cl core late order) (ho : ∀ z : Nat, z < core → (z : Int) ∈ order) (hp : PipN core late order fl nd) {dr : Nat} (hd : order.head? = some (dr : Int)) (hn : dr < nd.length) : (ordS nd nd.length).1[nd.length - 1]? = some dr :=
  ord_last hn (pip_order hf ho hp) fun z hz hne => (hp.2 dr hn z).2 (by rw [if_pos hd]; exact ⟨z, rfl, hz, hne⟩)
/-- Whichever are done: one may go on, as long as not all are. -/
theorem pip_one {cl : Int → Int → Int} {core : Nat} {late : List La} {order : List Int} {fl : List Fl} {nd : List (List Int)} (hf : ∀ y ∈ fl, y ∈ allI cl core late order) (ho : ∀ z : Nat, z < core → (z : Int) ∈ order) (hp : PipN core late order fl nd) (d : List Bool) : (∃ t, t < nd.length ∧ thB d t = false) ↔ ∃ t, t < nd.length ∧ rdyN nd d t = true :=
  ⟨rise_ready (pip_rise hf ho hp) d, fun ⟨t, h1, h2⟩ => ⟨t, h1, (rdyN_inv h2).1⟩⟩
end Go.Proofs.Ytoaciliojdaoaaa
