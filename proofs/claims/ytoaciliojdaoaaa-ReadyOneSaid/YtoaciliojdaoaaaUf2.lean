/- Layer 6: two classes put together, told apart, made, counted. No condition but that the classes lie in memory as they are made. -/
import Derived.Test.YtoaciliojdaoaaaUf
namespace Go.Proofs.Ytoaciliojdaoaaa
open Go.RowKit
attribute [local go_sem] more_cell more_frozen more_more more_setCell more_of_drew more_of_drewN lt_more le_more past_cell past_cell2 past_frozen past_frozen2 past_setCell past_setCell2 mid_cell mid_frozen mid_setCell
attribute [local go_sem ↓] Go.wp_at_zero Go.wp_at_succ

/-- From w to w' no block but g and h has turned, of those that were there. -/
structure Keep2 (w w' : World) (g h : Nat) : Prop where
  os : w'.os = w.os
  tape : w'.tape = w.tape
  output : w'.output = w.output
  size : w.heap.size ≤ w'.heap.size
  block : ∀ k, k < w.heap.size → k ≠ g → k ≠ h → w'.heap[k]? = w.heap[k]?
theorem Turns.keep {w w' : World} {h : Nat} (t : Turns w w' h) (g : Nat) : Keep2 w w' g h := ⟨t.os, t.tape, t.output, t.size, fun k hk _ hn => t.block k hk hn⟩
theorem Keep2.refl (w : World) (g h : Nat) : Keep2 w w g h := ⟨rfl, rfl, rfl, Nat.le_refl _, fun _ _ _ _ => rfl⟩
theorem Keep2.trans {w w' w'' : World} {g h : Nat} (a : Keep2 w w' g h) (b : Keep2 w' w'' g h) : Keep2 w w'' g h :=
  ⟨b.os.trans a.os, b.tape.trans a.tape, b.output.trans a.output, Nat.le_trans a.size b.size, fun k hk n1 n2 => (b.block k (Nat.lt_of_lt_of_le hk a.size) n1 n2).trans (a.block k hk n1 n2)⟩
theorem Keep2.more {w w' : World} {g h : Nat} (a : Keep2 w w' g h) (x : Xs) : Keep2 w (Go.Proofs.Ytoaciliojdaoaaa.more w' x) g h :=
  ⟨a.os, a.tape, a.output, by rw [more_size]; have := a.size; omega, fun k hk n1 n2 => (more_block w' x k (Nat.lt_of_lt_of_le hk a.size)).trans (a.block k hk n1 n2)⟩
theorem Keep2.set {w w' : World} {g h : Nat} (a : Keep2 w w' g h) (p : Addr) (hp : p.block = g ∨ p.block = h) (u : Value) : Keep2 w (w'.setCell p u) g h := by
  refine ⟨a.os, a.tape, a.output, by simpa [World.setCell] using a.size, fun k hk n1 n2 => ?_⟩
  rw [← a.block k hk n1 n2]
  simp only [World.setCell, Array.getElem?_modify]
  rw [if_neg (by omega)]
theorem Keep2.grew {u w w' : World} {g h : Nat} (a : Keep2 w w' g h) (k : Grew u w) (hg : u.heap.size ≤ g) (hh : u.heap.size ≤ h) : Grew u w' := by
  refine Grew.of_below ⟨a.os.trans k.below.os, a.tape.trans k.below.tape, a.output.trans k.below.output, Nat.le_trans k.size a.size, fun i hi => ?_⟩
  rw [a.block i (Nat.lt_of_lt_of_le hi k.size) (by omega) (by omega)]
  exact k.below.block i hi
theorem Row.keep {w w' : World} {g h : Nat} {A : Option Addr} {xs : List Value} (r : Row w A xs) (a : Keep2 w w' g h) (hn : ∀ p, A = some p → p.block ≠ g ∧ p.block ≠ h) : Row w' A xs := by
  rcases r with r | ⟨b, o, rfl, hb, hc⟩
  · exact Or.inl r
  · refine Or.inr ⟨b, o, rfl, Nat.lt_of_lt_of_le hb a.size, fun j u hu => ?_⟩
    rw [← hc j u hu]
    exact World.cell?_of_block (a.block b hb (hn _ rfl).1 (hn _ rfl).2)
/-- One class of two, by their least numbers. -/
def joinR (r : Nat → Nat) (i j : Nat) : Nat → Nat := fun k => if r k = max i j then min i j else r k
theorem joinR_same (r : Nat → Nat) (i : Nat) : joinR r i i = r := by
  funext k
  unfold joinR
  rw [Nat.max_self, Nat.min_self]
  split
  · omega
  · rfl
/-- Each number's class is told by its least one. -/
structure Least (n : Nat) (r : Nat → Nat) : Prop where
  le : ∀ i, i < n → r i ≤ i
  idem : ∀ i, i < n → r (r i) = r i
theorem Least.join {n : Nat} {r : Nat → Nat} (h : Least n r) {a b : Nat} (ha : a < n) (hb : b < n) : Least n (joinR r (r a) (r b)) := by
  have h1 := h.idem a ha
  have h2 := h.idem b hb
  have h3 := h.le a ha
  have h4 := h.le b hb
  refine ⟨fun i hi => ?_, fun i hi => ?_⟩
  · unfold joinR
    have := h.le i hi
    split <;> omega
  · have h5 := h.idem i hi
    have h6 := h.le i hi
    unfold joinR
    by_cases e : r i = max (r a) (r b)
    · simp only [if_pos e]
      rcases Nat.le_total (r a) (r b) with h7 | h7
      · rw [Nat.min_eq_left h7, Nat.max_eq_right h7, h1]
        split <;> omega
      · rw [Nat.min_eq_right h7, Nat.max_eq_left h7, h2]
        split <;> omega
    · simp only [if_neg e]
      rw [h5, if_neg e]
theorem Leads.join {n : Nat} {f r : Nat → Nat} (h : Leads n f r) (hr : Least n r) {a b : Nat} (ha : a < n) (hb : b < n) (hne : r a ≠ r b) :
    Leads n (fun i => if i = max (r a) (r b) then min (r a) (r b) else f i) (joinR r (r a) (r b)) := by
  have h1 := hr.idem a ha
  have h2 := hr.idem b hb
  have hmx : r (max (r a) (r b)) = max (r a) (r b) := by
    rcases Nat.le_total (r a) (r b) with h7 | h7
    · rw [Nat.max_eq_right h7, h2]
    · rw [Nat.max_eq_left h7, h1]
  have hmn : r (min (r a) (r b)) = min (r a) (r b) := by
    rcases Nat.le_total (r a) (r b) with h7 | h7
    · rw [Nat.min_eq_left h7, h1]
    · rw [Nat.min_eq_right h7, h2]
  have hlt : min (r a) (r b) < max (r a) (r b) := by omega
  have hj : joinR r (r a) (r b) = fun k => if r k = max (r a) (r b) then min (r a) (r b) else r k := rfl
  rw [hj]
  clear hj
  generalize max (r a) (r b) = mx at *
  generalize min (r a) (r b) = mn at *
  refine ⟨fun i hi => ?_, fun i hi => ?_, fun i hi => ?_⟩
  · by_cases e : i = mx
    · subst e; simp only [if_true]; omega
    · simp only [if_neg e]; exact h.le i hi
  · by_cases e : i = mx
    · subst e
      simp only [if_true]
      rw [hmn, hmx, if_neg (by omega), if_pos rfl]
    · simp only [if_neg e]
      rw [h.same i hi]
  · by_cases e : i = mx
    · subst e
      simp only [if_true]
      intro h0
      omega
    · simp only [if_neg e]
      intro h0
      have := h.root i hi h0
      rw [this, if_neg e]
/-- What Join leaves. -/
def Joined (w : World) (g h n : Nat) (r : Nat → Nat) (c : Int) (b : Bool) (e : Ending) (w' : World) : Prop :=
  e = .returned (.bool b) ∧ Keep2 w w' g h ∧ ∃ f, UfAt w' g h n f c ∧ Leads n f r
theorem UfAt.count {w : World} {g h n : Nat} {f : Nat → Nat} {c : Int} (u : UfAt w g h n f c) (d : Int) : UfAt (w.setCell ⟨g, 1, none⟩ (.int .i64 d)) g h n f d :=
  ⟨u.top.set 1 _, u.row.far (p := ⟨g, 1, none⟩) (fun e => u.ne e.symm) _, u.ne, u.small⟩
/-- What Find answers. -/
def findI (n : Nat) (r : Nat → Nat) (a : Int) : Int := if 0 ≤ a ∧ a < n then (r a.toNat : Int) else -1
theorem find_all (a : Int) (w : World) (g h n : Nat) (f r : Nat → Nat) (c : Int) (u : UfAt w g h n f c) (hl : Leads n f r) :
    Calls Try.prog 77 #[.pointer (some ⟨g, 0, none⟩), .int .i64 a] w (Found w g h n r c (findI n r a)) := by
  unfold findI
  by_cases h1 : 0 ≤ a ∧ a < n
  · rw [if_pos h1]
    obtain ⟨k, rfl⟩ := Int.eq_ofNat_of_zero_le h1.1
    rw [Int.toNat_natCast]
    exact find_any k w g h n f r c u hl (by omega)
  · rw [if_neg h1]
    exact find_none a w g h n f r c u hl (by omega)
theorem findI_lo (n : Nat) (r : Nat → Nat) (a : Int) : -1 ≤ findI n r a := by unfold findI; split <;> omega
/-- Behind a first Find, a second one. -/
def Found2 (w : World) (g h n : Nat) (r : Nat → Nat) (c : Int) (w' : World) : Prop := Turns w w' h ∧ ∃ f, UfAt w' g h n f c ∧ Leads n f r
theorem find_first (a x : Int) (w : World) (g h n : Nat) (f r : Nat → Nat) (c : Int) (u : UfAt w g h n f c) (hl : Leads n f r) (hx : findI n r a = x) :
    Calls Try.prog 77 #[.pointer (some ⟨g, 0, none⟩), .int .i64 a] w fun e w' => e = .returned (.int .i64 x) ∧ Found2 w g h n r c w' := by
  rw [← hx]
  exact find_all a w g h n f r c u hl
theorem find_next (a x : Int) (w w1 : World) (g h n : Nat) (r : Nat → Nat) (c : Int) (u : Found2 w g h n r c w1) (hx : findI n r a = x) :
    Calls Try.prog 77 #[.pointer (some ⟨g, 0, none⟩), .int .i64 a] w1 fun e w' => e = .returned (.int .i64 x) ∧ Found2 w g h n r c w' := by
  obtain ⟨t, f, u, hl⟩ := u
  rw [← hx]
  exact (find_all a w1 g h n f r c u hl).mono fun e w' ⟨he, t2, h2⟩ => ⟨he, t.trans t2, h2⟩
theorem join_no (x y p q : Int) (w : World) (g h n : Nat) (f r : Nat → Nat) (c : Int) (u : UfAt w g h n f c) (hl : Leads n f r) (hp : findI n r x = p) (hq : findI n r y = q) (ho : p < 0 ∨ q < 0 ∨ p = q) :
    Calls Try.prog 74 #[.pointer (some ⟨g, 0, none⟩), .int .i64 x, .int .i64 y] w (Joined w g h n r c false) := by
  have HU := Lib.hid u
  have HL := Lib.hid hl
  have HP := Lib.hid hp
  have HQ := Lib.hid hq
  clear u hl hp hq
  rcases (by omega : p < 0 ∨ (0 ≤ p ∧ q < 0) ∨ (0 ≤ p ∧ 0 ≤ q ∧ p = q)) with h1 | ⟨h1, h2⟩ | ⟨h1, h2, rfl⟩
  all_goals
    clear ho
    go_enter Try.func74, Try.ntmps74
    go_wp2_with (first | (go_at_call_of 77 (Value.int .i64 x); (with_reducible refine (find_first x _ _ g h n f r c HU.out HL.out HP.out).mono ?_); rintro e w1 ⟨rfl, t1⟩; have T1 := Lib.hid t1; clear t1) | (go_at_call 77; (with_reducible refine (find_next y _ _ _ g h n r c T1.out HQ.out).mono ?_); rintro e w2 ⟨rfl, t2⟩; have T2 := Lib.hid t2; clear t2))
    go_ret
    obtain ⟨t, f2, u2, l2⟩ := T2.out
    exact ⟨rfl, t.keep g, f2, u2, l2⟩
theorem join_yes (x y : Int) (p q : Nat) (w : World) (g h n : Nat) (f r : Nat → Nat) (c : Int) (u : UfAt w g h n f c) (hl : Leads n f r) (hr : Least n r) (hp : findI n r x = p) (hq : findI n r y = q) (hne : p ≠ q) (hc : 0 < c) (hc' : c ≤ 65536) :
    Calls Try.prog 74 #[.pointer (some ⟨g, 0, none⟩), .int .i64 x, .int .i64 y] w (Joined w g h n (joinR r p q) (c - 1) true) := by
  have hpn : p < n ∧ ∃ a, a < n ∧ r a = p := by
    unfold findI at hp
    split at hp
    · rename_i h0
      have := hr.le x.toNat (by omega)
      exact ⟨by omega, x.toNat, by omega, by omega⟩
    · omega
  have hqn : q < n ∧ ∃ b, b < n ∧ r b = q := by
    unfold findI at hq
    split at hq
    · rename_i h0
      have := hr.le y.toNat (by omega)
      exact ⟨by omega, y.toNat, by omega, by omega⟩
    · omega
  obtain ⟨p1, a, ha, rfl⟩ := hpn
  obtain ⟨q1, b, hb, rfl⟩ := hqn
  have HJ : Hid (∀ f, Leads n f r → Leads n (fun i => if i = max (r a) (r b) then min (r a) (r b) else f i) (joinR r (r a) (r b))) := Lib.hid fun f hf => hf.join hr ha hb hne
  have HU := Lib.hid u
  have HL := Lib.hid hl
  have HP := Lib.hid hp
  have HQ := Lib.hid hq
  clear u hl hp hq hr
  generalize hJ : joinR r (r a) (r b) = r2 at *
  clear hJ
  generalize r a = p at *
  generalize r b = q at *
  have hb1 : ((p : Int) == (q : Int)) = false := by rw [beq_eq_false_iff_ne]; omega
  have hb2 : (p == q) = false := by rw [beq_eq_false_iff_ne]; omega
  rcases (by omega : p < q ∨ q < p) with hlt | hlt
  · skip
    have HJ2 : Hid (∀ f, Leads n f r → Leads n (fun i => if i = q then p else f i) r2) := Lib.hid (by have := HJ.out; rw [show max p q = q by omega, show min p q = p by omega] at this; exact this)
    clear HJ
    go_enter Try.func74, Try.ntmps74
    go_wp2_with (first | (go_at_call_of 77 (Value.int .i64 x); (with_reducible refine (find_first x _ _ g h n f r c HU.out HL.out HP.out).mono ?_); rintro e w1 ⟨rfl, t1⟩; have T1 := Lib.hid t1; clear t1) | (go_at_call 77; (with_reducible refine (find_next y _ _ _ g h n r c T1.out HQ.out).mono ?_); rintro e w2 ⟨rfl, t2⟩; obtain ⟨t, f2, u2, l2⟩ := t2; have c0 := u2.top.cell 0; have c2 := u2.row.cell q; rw [numsV_at n f2 _ (by omega)] at c2; have z1 := u2.row.thaw q; have hgh := u2.ne; have c3 : (w2.setCell ⟨h, q, none⟩ (.int .i64 (p : Nat))).cell? ⟨g, 1, none⟩ = some (.int .i64 c) := ((u2.set q p).top.cell 1).trans rfl; have z3 : (w2.setCell ⟨h, q, none⟩ (.int .i64 (p : Nat))).frozen? ⟨g, 1, none⟩ = false := (u2.set q p).top.thaw 1; simp at c0; have T2 := Lib.hid t; have U2 := Lib.hid u2; have L2 := Lib.hid l2; clear t u2 l2))
    go_ret
    exact ⟨rfl, (((T2.out.keep g).set ⟨h, q, none⟩ (Or.inr rfl) _).set ⟨g, 1, none⟩ (Or.inl rfl) _), _, (U2.out.set q p).count (c - 1), HJ2.out f2 L2.out⟩
  · skip
    have HJ2 : Hid (∀ f, Leads n f r → Leads n (fun i => if i = p then q else f i) r2) := Lib.hid (by have := HJ.out; rw [show max p q = p by omega, show min p q = q by omega] at this; exact this)
    clear HJ
    go_enter Try.func74, Try.ntmps74
    go_wp2_with (first | (go_at_call_of 77 (Value.int .i64 x); (with_reducible refine (find_first x _ _ g h n f r c HU.out HL.out HP.out).mono ?_); rintro e w1 ⟨rfl, t1⟩; have T1 := Lib.hid t1; clear t1) | (go_at_call 77; (with_reducible refine (find_next y _ _ _ g h n r c T1.out HQ.out).mono ?_); rintro e w2 ⟨rfl, t2⟩; obtain ⟨t, f2, u2, l2⟩ := t2; have c0 := u2.top.cell 0; have c2 := u2.row.cell p; rw [numsV_at n f2 _ (by omega)] at c2; have z1 := u2.row.thaw p; have hgh := u2.ne; have c3 : (w2.setCell ⟨h, p, none⟩ (.int .i64 (q : Nat))).cell? ⟨g, 1, none⟩ = some (.int .i64 c) := ((u2.set p q).top.cell 1).trans rfl; have z3 : (w2.setCell ⟨h, p, none⟩ (.int .i64 (q : Nat))).frozen? ⟨g, 1, none⟩ = false := (u2.set p q).top.thaw 1; simp at c0; have T2 := Lib.hid t; have U2 := Lib.hid u2; have L2 := Lib.hid l2; clear t u2 l2))
    go_ret
    exact ⟨rfl, (((T2.out.keep g).set ⟨h, p, none⟩ (Or.inr rfl) _).set ⟨g, 1, none⟩ (Or.inl rfl) _), _, (U2.out.set p q).count (c - 1), HJ2.out f2 L2.out⟩
end Go.Proofs.Ytoaciliojdaoaaa
