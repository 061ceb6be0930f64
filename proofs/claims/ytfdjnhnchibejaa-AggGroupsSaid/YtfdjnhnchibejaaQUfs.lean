/- Maps of one's own, by their entries in the order in which they were put. Condition: keys of a type that has a key's law. -/
import Derived.Test.YtfdjnhnchibejaaRows
import Derived.Test.YtfdjnhnchibejaaHeap
import Derived.StillTailTactics
import Derived.Lib.Hide
import Derived.IntWalk
import Derived.OpenShut
import Derived.Deep.RegionHeld3
import Derived.Deep.DrawnRows
import Derived.Deep.OwnRows
import Derived.Laws.OwnMore
import Derived.Test.YtfdjnhnchibejaaApp
import Derived.Deep.QuietTactic
import Derived.Test.YtfdjnhnchibejaaApp2
import Derived.Maps.Own
import Derived.DeepKeys4

/- Layer 6: numbers in classes that lie in memory: what Find tells, and what it leaves. No condition but that the classes lie in memory as they are made. -/
namespace Go.Proofs.Ytfdjnhnchibejaa
open Go.RowKit
attribute [local go_sem] more_cell more_frozen more_more more_setCell more_of_drew more_of_drewN lt_more le_more past_cell past_cell2 past_frozen past_frozen2 past_setCell past_setCell2 mid_cell mid_frozen mid_setCell
attribute [local go_sem ↓] Go.wp_at_zero Go.wp_at_succ

/-- Classes at block g: their row of n numbers at block h, what it holds, and how many classes. -/
structure UfAt (w : World) (g h n : Nat) (f : Nat → Nat) (c : Int) : Prop where
  top : Blok w g 149 #[.slice (some ⟨h, 0, none⟩) n n, .int .i64 c]
  row : Blok w h 3 (numsV n f)
  ne : g ≠ h
  small : n ≤ 65536
/-- f leads each number to its class's least one, r. -/
structure Leads (n : Nat) (f r : Nat → Nat) : Prop where
  le : ∀ i, i < n → f i ≤ i
  same : ∀ i, i < n → r (f i) = r i
  root : ∀ i, i < n → f i = i → r i = i
theorem Leads.shorten {n b y : Nat} {f r : Nat → Nat} (h : Leads n f r) (_hb : b < n) (hy : y < b) (hr : r y = r b) : Leads n (fun i => if i = b then y else f i) r := by
  refine ⟨fun i hi => ?_, fun i hi => ?_, fun i hi => ?_⟩
  all_goals
    by_cases e : i = b
    · subst e
      simp only [if_true]
      omega
    · simp only [if_neg e]
      first | exact h.le i hi | exact h.same i hi | exact h.root i hi
theorem UfAt.drew {w : World} {g h n : Nat} {f : Nat → Nat} {c : Int} (u : UfAt w g h n f c) : UfAt w.drew g h n f c := ⟨u.top, u.row, u.ne, u.small⟩
theorem UfAt.drewN {w : World} {g h n : Nat} {f : Nat → Nat} {c : Int} (u : UfAt w g h n f c) (k : Nat) : UfAt (w.drewN k) g h n f c := ⟨u.top, u.row, u.ne, u.small⟩
theorem UfAt.more {w : World} {g h n : Nat} {f : Nat → Nat} {c : Int} (u : UfAt w g h n f c) (x : Xs) : UfAt (more w x) g h n f c := ⟨u.top.more x, u.row.more x, u.ne, u.small⟩
theorem UfAt.set {w : World} {g h n : Nat} {f : Nat → Nat} {c : Int} (u : UfAt w g h n f c) (a v : Nat) : UfAt (w.setCell ⟨h, a, none⟩ (.int .i64 v)) g h n (fun i => if i = a then v else f i) c :=
  ⟨u.top.far (p := ⟨h, a, none⟩) u.ne _, by rw [← numsV_set]; exact u.row.set a _, u.ne, u.small⟩
/-- What Find leaves: the answer, classes that tell the same, and nothing else turned. -/
def Found (w : World) (g h n : Nat) (r : Nat → Nat) (c : Int) (x : Int) (e : Ending) (w' : World) : Prop :=
  e = .returned (.int .i64 x) ∧ Turns w w' h ∧ ∃ f, UfAt w' g h n f c ∧ Leads n f r
theorem Turns.drew {w w' : World} {g : Nat} (h : Turns w w' g) : Turns w w'.drew g := ⟨h.os, h.tape, h.output, h.size, h.block⟩
theorem Turns.drewN {w w' : World} {g : Nat} (h : Turns w w' g) (k : Nat) : Turns w (w'.drewN k) g := ⟨h.os, h.tape, h.output, h.size, h.block⟩
theorem find_none (a : Int) (w : World) (g h n : Nat) (f r : Nat → Nat) (c : Int) (u : UfAt w g h n f c) (hl : Leads n f r) (ha : a < 0 ∨ (n : Int) ≤ a) :
    Calls Try.prog 129 #[.pointer (some ⟨g, 0, none⟩), .int .i64 a] w (Found w g h n r c (-1)) := by
  have c0 := u.top.cell 0
  have HU := Lib.hid u
  have HL := Lib.hid hl
  simp at c0
  clear u hl
  rcases (by omega : a < 0 ∨ (¬ a < 0 ∧ (n : Int) ≤ a)) with h1 | ⟨h1, h2⟩
  all_goals
    clear ha
    go_enter Try.func129, Try.ntmps129
    go_wp2
    go_ret
    exact ⟨rfl, Turns.refl _ _, f, HU.out, HL.out⟩
def FindAt (w : World) (g h n : Nat) (r : Nat → Nat) (c : Int) (x : Nat) (i : Value) (wr : World) : Prop :=
  ∃ (a : Nat) (f : Nat → Nat), a < n ∧ i = .int .i64 a ∧ r a = x ∧ Turns w wr h ∧ UfAt wr g h n f c ∧ Leads n f r
theorem find_any (a : Nat) (w : World) (g h n : Nat) (f r : Nat → Nat) (c : Int) (u : UfAt w g h n f c) (hl : Leads n f r) (ha : a < n) :
    Calls Try.prog 129 #[.pointer (some ⟨g, 0, none⟩), .int .i64 a] w (Found w g h n r c (r a)) := by
  have c0 := u.top.cell 0
  have HU := Lib.hid u
  have HL := Lib.hid hl
  simp at c0
  clear u hl
  go_enter Try.func129, Try.ntmps129
  go_wp2
  go_loopw [1] (fun i wr => FindAt w g h n r c (r a) i wr) (fun i _ => (intOf i).toNat)
  case atStart => exact ⟨a, f, ha, rfl, rfl, Turns.refl _ _, HU.out, HL.out⟩
  case round =>
    obtain ⟨b, f', hb, rfl, hr, ht, hu, hl⟩ := hrel
    have c0 := hu.top.cell 0
    have c1 := hu.row.cell b
    have c2 := hu.row.cell (f' b)
    have hfb := hl.le b hb
    have hffb := hl.le (f' b) (by omega)
    rw [numsV_at n f' b hb] at c1
    rw [numsV_at n f' (f' b) (by omega)] at c2
    have z1 := hu.row.thaw b
    have hgl := hu.top.lt
    have hhl := hu.row.lt
    have HT := Lib.hid ht
    have HV := Lib.hid hu
    have HL2 := Lib.hid hl
    have HX := Lib.hid hr
    simp at c0
    clear hr ht hu hl
    by_cases hroot : f' b = b
    · have hz : r b = b := HL2.out.root b hb hroot
      have HZ : Hid (r a = b) := Lib.hid (by rw [← HX.out, hz])
      clear hz c2
      rw [hroot] at c1 hfb hffb
      clear hroot
      go_wp2
      go_ret
      exact ⟨by rw [HZ.out]; rfl, HT.out, f', HV.out, HL2.out⟩
    · have t1 : ((f' b != b) : Bool) = true := by rw [bne_iff_ne]; exact hroot
      have t2 : (((f' b : Nat) : Int) != (b : Int)) = true := by rw [bne_iff_ne]; omega
      have hm : f' (f' b) < b := by omega
      generalize hw : f' b = x at *
      have HW := Lib.hid hw
      clear hw hroot t1
      generalize hx : f' x = y at *
      have HY := Lib.hid hx
      clear hx
      have hry : r y = r b := by
        have h1 := HL2.out.same x (by omega)
        have h2 := HL2.out.same b hb
        rw [HY.out] at h1
        rw [HW.out] at h2
        omega
      have HRY : Hid (r y = r a) := Lib.hid (by have := HX.out; omega)
      have HLN : Hid (Leads n (fun i => if i = b then y else f' i) r) := Lib.hid (Leads.shorten HL2.out hb hm hry)
      clear hry
      go_wp2
      refine wp_region_more_tail 19 (by kernel_rfl) (by kernel_rfl) ?_
      simp only [List.take_succ_cons, List.take_zero, List.drop_succ_cons, List.drop_zero]
      repeat (go_big_quiet_step ((fail)))
      refine wpQuiet_nil ?_
      rintro _ ⟨z, rfl⟩
      go_wp2
      exact ⟨⟨y, fun i => if i = b then y else f' i, by omega, rfl, HRY.out, by first | exact (HT.out.more _).set _ _ | exact (HT.out.set _ _).more _, by first | exact (HV.out.more _).set _ _ | exact (HV.out.set _ _).more _, HLN.out⟩, by simp only [intOf]; omega⟩
end Go.Proofs.Ytfdjnhnchibejaa

/- Layer 6: two classes put together, told apart, made, counted. No condition but that the classes lie in memory as they are made. -/
namespace Go.Proofs.Ytfdjnhnchibejaa
open Go.RowKit
attribute [local go_sem] more_cell more_frozen more_more more_setCell more_of_drew more_of_drewN lt_more le_more past_cell past_cell2 past_frozen past_frozen2 past_setCell past_setCell2 mid_cell mid_frozen mid_setCell
attribute [local go_sem ↓] Go.wp_at_zero Go.wp_at_succ

/-- From w to w' no block but g and h has turned, of those that were there. -/
structure Keep2 (w w' : World) (g h : Nat) : Prop where
  os : w'.os = w.os
  tape : w'.tape = w.tape
  output : w'.output = w.output
  size : w.heap.size ≤ w'.heap.size
  block : ∀ k, k < w.heap.size → k ≠ g → k ≠ h → w'.heap[k]? = w.heap[k]?
theorem Turns.keep {w w' : World} {h : Nat} (t : Turns w w' h) (g : Nat) : Keep2 w w' g h := ⟨t.os, t.tape, t.output, t.size, fun k hk _ hn => t.block k hk hn⟩
theorem Keep2.refl (w : World) (g h : Nat) : Keep2 w w g h := ⟨rfl, rfl, rfl, Nat.le_refl _, fun _ _ _ _ => rfl⟩
theorem Keep2.trans {w w' w'' : World} {g h : Nat} (a : Keep2 w w' g h) (b : Keep2 w' w'' g h) : Keep2 w w'' g h :=
  ⟨b.os.trans a.os, b.tape.trans a.tape, b.output.trans a.output, Nat.le_trans a.size b.size, fun k hk n1 n2 => (b.block k (Nat.lt_of_lt_of_le hk a.size) n1 n2).trans (a.block k hk n1 n2)⟩
theorem Keep2.more {w w' : World} {g h : Nat} (a : Keep2 w w' g h) (x : Xs) : Keep2 w (Go.Proofs.Ytfdjnhnchibejaa.more w' x) g h :=
  ⟨a.os, a.tape, a.output, by rw [more_size]; have := a.size; omega, fun k hk n1 n2 => (more_block w' x k (Nat.lt_of_lt_of_le hk a.size)).trans (a.block k hk n1 n2)⟩
theorem Keep2.set {w w' : World} {g h : Nat} (a : Keep2 w w' g h) (p : Addr) (hp : p.block = g ∨ p.block = h) (u : Value) : Keep2 w (w'.setCell p u) g h := by
  refine ⟨a.os, a.tape, a.output, by simpa [World.setCell] using a.size, fun k hk n1 n2 => ?_⟩
  rw [← a.block k hk n1 n2]
  simp only [World.setCell, Array.getElem?_modify]
  rw [if_neg (by omega)]
theorem Keep2.grew {u w w' : World} {g h : Nat} (a : Keep2 w w' g h) (k : Grew u w) (hg : u.heap.size ≤ g) (hh : u.heap.size ≤ h) : Grew u w' := by
  refine Grew.of_below ⟨a.os.trans k.below.os, a.tape.trans k.below.tape, a.output.trans k.below.output, Nat.le_trans k.size a.size, fun i hi => ?_⟩
  rw [a.block i (Nat.lt_of_lt_of_le hi k.size) (by omega) (by omega)]
  exact k.below.block i hi
theorem Row.keep {w w' : World} {g h : Nat} {A : Option Addr} {xs : List Value} (r : Row w A xs) (a : Keep2 w w' g h) (hn : ∀ p, A = some p → p.block ≠ g ∧ p.block ≠ h) : Row w' A xs := by
  rcases r with r | ⟨b, o, rfl, hb, hc⟩
  · exact Or.inl r
  · refine Or.inr ⟨b, o, rfl, Nat.lt_of_lt_of_le hb a.size, fun j u hu => ?_⟩
    rw [← hc j u hu]
    exact World.cell?_of_block (a.block b hb (hn _ rfl).1 (hn _ rfl).2)
/-- One class of two, by their least numbers. -/
def joinR (r : Nat → Nat) (i j : Nat) : Nat → Nat := fun k => if r k = max i j then min i j else r k
theorem joinR_same (r : Nat → Nat) (i : Nat) : joinR r i i = r := by
  funext k
  unfold joinR
  rw [Nat.max_self, Nat.min_self]
  split
  · omega
  · rfl
/-- Each number's class is told by its least one. -/
structure Least (n : Nat) (r : Nat → Nat) : Prop where
  le : ∀ i, i < n → r i ≤ i
  idem : ∀ i, i < n → r (r i) = r i
theorem Least.join {n : Nat} {r : Nat → Nat} (h : Least n r) {a b : Nat} (ha : a < n) (hb : b < n) : Least n (joinR r (r a) (r b)) := by
  have h1 := h.idem a ha
  have h2 := h.idem b hb
  have h3 := h.le a ha
  have h4 := h.le b hb
  refine ⟨fun i hi => ?_, fun i hi => ?_⟩
  · unfold joinR
    have := h.le i hi
    split <;> omega
  · have h5 := h.idem i hi
    have h6 := h.le i hi
    unfold joinR
    by_cases e : r i = max (r a) (r b)
    · simp only [if_pos e]
      rcases Nat.le_total (r a) (r b) with h7 | h7
      · rw [Nat.min_eq_left h7, Nat.max_eq_right h7, h1]
        split <;> omega
      · rw [Nat.min_eq_right h7, Nat.max_eq_left h7, h2]
        split <;> omega
    · simp only [if_neg e]
      rw [h5, if_neg e]
theorem Leads.join {n : Nat} {f r : Nat → Nat} (h : Leads n f r) (hr : Least n r) {a b : Nat} (ha : a < n) (hb : b < n) (hne : r a ≠ r b) :
    Leads n (fun i => if i = max (r a) (r b) then min (r a) (r b) else f i) (joinR r (r a) (r b)) := by
  have h1 := hr.idem a ha
  have h2 := hr.idem b hb
  have hmx : r (max (r a) (r b)) = max (r a) (r b) := by
    rcases Nat.le_total (r a) (r b) with h7 | h7
    · rw [Nat.max_eq_right h7, h2]
    · rw [Nat.max_eq_left h7, h1]
  have hmn : r (min (r a) (r b)) = min (r a) (r b) := by
    rcases Nat.le_total (r a) (r b) with h7 | h7
    · rw [Nat.min_eq_left h7, h1]
    · rw [Nat.min_eq_right h7, h2]
  have hlt : min (r a) (r b) < max (r a) (r b) := by omega
  have hj : joinR r (r a) (r b) = fun k => if r k = max (r a) (r b) then min (r a) (r b) else r k := rfl
  rw [hj]
  clear hj
  generalize max (r a) (r b) = mx at *
  generalize min (r a) (r b) = mn at *
  refine ⟨fun i hi => ?_, fun i hi => ?_, fun i hi => ?_⟩
  · by_cases e : i = mx
    · subst e; simp only [if_true]; omega
    · simp only [if_neg e]; exact h.le i hi
  · by_cases e : i = mx
    · subst e
      simp only [if_true]
      rw [hmn, hmx, if_neg (by omega), if_pos rfl]
    · simp only [if_neg e]
      rw [h.same i hi]
  · by_cases e : i = mx
    · subst e
      simp only [if_true]
      intro h0
      omega
    · simp only [if_neg e]
      intro h0
      have := h.root i hi h0
      rw [this, if_neg e]
/-- What Join leaves. -/
def Joined (w : World) (g h n : Nat) (r : Nat → Nat) (c : Int) (b : Bool) (e : Ending) (w' : World) : Prop :=
  e = .returned (.bool b) ∧ Keep2 w w' g h ∧ ∃ f, UfAt w' g h n f c ∧ Leads n f r
theorem UfAt.count {w : World} {g h n : Nat} {f : Nat → Nat} {c : Int} (u : UfAt w g h n f c) (d : Int) : UfAt (w.setCell ⟨g, 1, none⟩ (.int .i64 d)) g h n f d :=
  ⟨u.top.set 1 _, u.row.far (p := ⟨g, 1, none⟩) (fun e => u.ne e.symm) _, u.ne, u.small⟩
/-- What Find answers. -/
def findI (n : Nat) (r : Nat → Nat) (a : Int) : Int := if 0 ≤ a ∧ a < n then (r a.toNat : Int) else -1
theorem find_all (a : Int) (w : World) (g h n : Nat) (f r : Nat → Nat) (c : Int) (u : UfAt w g h n f c) (hl : Leads n f r) :
    Calls Try.prog 129 #[.pointer (some ⟨g, 0, none⟩), .int .i64 a] w (Found w g h n r c (findI n r a)) := by
  unfold findI
  by_cases h1 : 0 ≤ a ∧ a < n
  · rw [if_pos h1]
    obtain ⟨k, rfl⟩ := Int.eq_ofNat_of_zero_le h1.1
    rw [Int.toNat_natCast]
    exact find_any k w g h n f r c u hl (by omega)
  · rw [if_neg h1]
    exact find_none a w g h n f r c u hl (by omega)
theorem findI_lo (n : Nat) (r : Nat → Nat) (a : Int) : -1 ≤ findI n r a := by unfold findI; split <;> omega
/-- Behind a first Find, a second one. -/
def Found2 (w : World) (g h n : Nat) (r : Nat → Nat) (c : Int) (w' : World) : Prop := Turns w w' h ∧ ∃ f, UfAt w' g h n f c ∧ Leads n f r
theorem find_first (a x : Int) (w : World) (g h n : Nat) (f r : Nat → Nat) (c : Int) (u : UfAt w g h n f c) (hl : Leads n f r) (hx : findI n r a = x) :
    Calls Try.prog 129 #[.pointer (some ⟨g, 0, none⟩), .int .i64 a] w fun e w' => e = .returned (.int .i64 x) ∧ Found2 w g h n r c w' := by
  rw [← hx]
  exact find_all a w g h n f r c u hl
theorem find_next (a x : Int) (w w1 : World) (g h n : Nat) (r : Nat → Nat) (c : Int) (u : Found2 w g h n r c w1) (hx : findI n r a = x) :
    Calls Try.prog 129 #[.pointer (some ⟨g, 0, none⟩), .int .i64 a] w1 fun e w' => e = .returned (.int .i64 x) ∧ Found2 w g h n r c w' := by
  obtain ⟨t, f, u, hl⟩ := u
  rw [← hx]
  exact (find_all a w1 g h n f r c u hl).mono fun e w' ⟨he, t2, h2⟩ => ⟨he, t.trans t2, h2⟩
theorem join_no (x y p q : Int) (w : World) (g h n : Nat) (f r : Nat → Nat) (c : Int) (u : UfAt w g h n f c) (hl : Leads n f r) (hp : findI n r x = p) (hq : findI n r y = q) (ho : p < 0 ∨ q < 0 ∨ p = q) :
    Calls Try.prog 128 #[.pointer (some ⟨g, 0, none⟩), .int .i64 x, .int .i64 y] w (Joined w g h n r c false) := by
  have HU := Lib.hid u
  have HL := Lib.hid hl
  have HP := Lib.hid hp
  have HQ := Lib.hid hq
  clear u hl hp hq
  rcases (by omega : p < 0 ∨ (0 ≤ p ∧ q < 0) ∨ (0 ≤ p ∧ 0 ≤ q ∧ p = q)) with h1 | ⟨h1, h2⟩ | ⟨h1, h2, rfl⟩
  all_goals
    clear ho
    go_enter Try.func128, Try.ntmps128
    go_wp2_with (first | (go_at_call_of 129 (Value.int .i64 x); (with_reducible refine (find_first x _ _ g h n f r c HU.out HL.out HP.out).mono ?_); rintro e w1 ⟨rfl, t1⟩; have T1 := Lib.hid t1; clear t1) | (go_at_call 129; (with_reducible refine (find_next y _ _ _ g h n r c T1.out HQ.out).mono ?_); rintro e w2 ⟨rfl, t2⟩; have T2 := Lib.hid t2; clear t2))
    go_ret
    obtain ⟨t, f2, u2, l2⟩ := T2.out
    exact ⟨rfl, t.keep g, f2, u2, l2⟩
theorem join_yes (x y : Int) (p q : Nat) (w : World) (g h n : Nat) (f r : Nat → Nat) (c : Int) (u : UfAt w g h n f c) (hl : Leads n f r) (hr : Least n r) (hp : findI n r x = p) (hq : findI n r y = q) (hne : p ≠ q) (hc : 0 < c) (hc' : c ≤ 65536) :
    Calls Try.prog 128 #[.pointer (some ⟨g, 0, none⟩), .int .i64 x, .int .i64 y] w (Joined w g h n (joinR r p q) (c - 1) true) := by
  have hpn : p < n ∧ ∃ a, a < n ∧ r a = p := by
    unfold findI at hp
    split at hp
    · rename_i h0
      have := hr.le x.toNat (by omega)
      exact ⟨by omega, x.toNat, by omega, by omega⟩
    · omega
  have hqn : q < n ∧ ∃ b, b < n ∧ r b = q := by
    unfold findI at hq
    split at hq
    · rename_i h0
      have := hr.le y.toNat (by omega)
      exact ⟨by omega, y.toNat, by omega, by omega⟩
    · omega
  obtain ⟨p1, a, ha, rfl⟩ := hpn
  obtain ⟨q1, b, hb, rfl⟩ := hqn
  have HJ : Hid (∀ f, Leads n f r → Leads n (fun i => if i = max (r a) (r b) then min (r a) (r b) else f i) (joinR r (r a) (r b))) := Lib.hid fun f hf => hf.join hr ha hb hne
  have HU := Lib.hid u
  have HL := Lib.hid hl
  have HP := Lib.hid hp
  have HQ := Lib.hid hq
  clear u hl hp hq hr
  generalize hJ : joinR r (r a) (r b) = r2 at *
  clear hJ
  generalize r a = p at *
  generalize r b = q at *
  have hb1 : ((p : Int) == (q : Int)) = false := by rw [beq_eq_false_iff_ne]; omega
  have hb2 : (p == q) = false := by rw [beq_eq_false_iff_ne]; omega
  rcases (by omega : p < q ∨ q < p) with hlt | hlt
  · skip
    have HJ2 : Hid (∀ f, Leads n f r → Leads n (fun i => if i = q then p else f i) r2) := Lib.hid (by have := HJ.out; rw [show max p q = q by omega, show min p q = p by omega] at this; exact this)
    clear HJ
    go_enter Try.func128, Try.ntmps128
    go_wp2_with (first | (go_at_call_of 129 (Value.int .i64 x); (with_reducible refine (find_first x _ _ g h n f r c HU.out HL.out HP.out).mono ?_); rintro e w1 ⟨rfl, t1⟩; have T1 := Lib.hid t1; clear t1) | (go_at_call 129; (with_reducible refine (find_next y _ _ _ g h n r c T1.out HQ.out).mono ?_); rintro e w2 ⟨rfl, t2⟩; obtain ⟨t, f2, u2, l2⟩ := t2; have c0 := u2.top.cell 0; have c2 := u2.row.cell q; rw [numsV_at n f2 _ (by omega)] at c2; have z1 := u2.row.thaw q; have hgh := u2.ne; have c3 : (w2.setCell ⟨h, q, none⟩ (.int .i64 (p : Nat))).cell? ⟨g, 1, none⟩ = some (.int .i64 c) := ((u2.set q p).top.cell 1).trans rfl; have z3 : (w2.setCell ⟨h, q, none⟩ (.int .i64 (p : Nat))).frozen? ⟨g, 1, none⟩ = false := (u2.set q p).top.thaw 1; simp at c0; have T2 := Lib.hid t; have U2 := Lib.hid u2; have L2 := Lib.hid l2; clear t u2 l2))
    go_ret
    exact ⟨rfl, (((T2.out.keep g).set ⟨h, q, none⟩ (Or.inr rfl) _).set ⟨g, 1, none⟩ (Or.inl rfl) _), _, (U2.out.set q p).count (c - 1), HJ2.out f2 L2.out⟩
  · skip
    have HJ2 : Hid (∀ f, Leads n f r → Leads n (fun i => if i = p then q else f i) r2) := Lib.hid (by have := HJ.out; rw [show max p q = p by omega, show min p q = q by omega] at this; exact this)
    clear HJ
    go_enter Try.func128, Try.ntmps128
    go_wp2_with (first | (go_at_call_of 129 (Value.int .i64 x); (with_reducible refine (find_first x _ _ g h n f r c HU.out HL.out HP.out).mono ?_); rintro e w1 ⟨rfl, t1⟩; have T1 := Lib.hid t1; clear t1) | (go_at_call 129; (with_reducible refine (find_next y _ _ _ g h n r c T1.out HQ.out).mono ?_); rintro e w2 ⟨rfl, t2⟩; obtain ⟨t, f2, u2, l2⟩ := t2; have c0 := u2.top.cell 0; have c2 := u2.row.cell p; rw [numsV_at n f2 _ (by omega)] at c2; have z1 := u2.row.thaw p; have hgh := u2.ne; have c3 : (w2.setCell ⟨h, p, none⟩ (.int .i64 (q : Nat))).cell? ⟨g, 1, none⟩ = some (.int .i64 c) := ((u2.set p q).top.cell 1).trans rfl; have z3 : (w2.setCell ⟨h, p, none⟩ (.int .i64 (q : Nat))).frozen? ⟨g, 1, none⟩ = false := (u2.set p q).top.thaw 1; simp at c0; have T2 := Lib.hid t; have U2 := Lib.hid u2; have L2 := Lib.hid l2; clear t u2 l2))
    go_ret
    exact ⟨rfl, (((T2.out.keep g).set ⟨h, p, none⟩ (Or.inr rfl) _).set ⟨g, 1, none⟩ (Or.inl rfl) _), _, (U2.out.set p q).count (c - 1), HJ2.out f2 L2.out⟩
end Go.Proofs.Ytfdjnhnchibejaa

/- Layer 6: classes that are made, each by itself; told apart, counted. No condition. -/
namespace Go.Proofs.Ytfdjnhnchibejaa
open Go.RowKit
attribute [local go_sem] more_cell more_frozen more_more more_setCell more_of_drew more_of_drewN lt_more le_more past_cell past_cell2 past_frozen past_frozen2 past_setCell past_setCell2 mid_cell mid_frozen mid_setCell
attribute [local go_sem ↓] Go.wp_at_zero Go.wp_at_succ

/-- What New leaves: classes of one's own, each number by itself, above all that was there. -/
def Newly (w : World) (n : Nat) (e : Ending) (w' : World) : Prop :=
  ∃ g h, e = .returned (.pointer (some ⟨g, 0, none⟩)) ∧ w.heap.size ≤ g ∧ w.heap.size ≤ h ∧ Grew w w' ∧ ∃ f, UfAt w' g h n f n ∧ Leads n f id
def UpTo (w : World) (g h n : Nat) (i : Value) (wr : World) : Prop :=
  ∃ k : Nat, k ≤ n ∧ i = .int .i64 k ∧ Grew w wr ∧ UfAt wr g h n (fun j => if j < k then j else 0) n
theorem made_nums (n : Nat) (f : Nat → Nat) (hf : ∀ i, f i = 0) : madeCells #[.int .i64 0] n = numsV n f := by
  apply Array.ext'
  rw [toList_madeCells_one]
  unfold numsV
  apply List.ext_getElem?
  intro i
  by_cases h : i < n
  · simp [h, hf]
  · simp [h]
theorem infoInt3 : (Try.prog.info? 3).map (fun i => (i.zero, i.size, i.bytes)) = some (some (.int .i64 0), 1, 8) := by kernel_rfl
set_option maxRecDepth 400000 in
theorem new_any (n : Nat) (hn : n ≤ 40) (w : World) : Calls Try.prog 127 #[.int .i64 n] w (Newly w n) := by
  obtain ⟨j0, hj, hj'⟩ := Option.map_eq_some_iff.1 infoInt3
  simp only [Prod.mk.injEq] at hj'
  obtain ⟨hj0, hj1, hj2⟩ := hj'
  have HJ := Lib.hid hj
  have HJ0 := Lib.hid hj0
  have HJ1 := Lib.hid hj1
  have HJ2 := Lib.hid hj2
  clear hj hj0 hj1 hj2
  have hmx : max 0 (n : Int) = n := by omega
  have hmn : min 65536 (n : Int) = n := by omega
  have hif : (if 0 < n then (n : Int) else 0) = (n : Int) := by split <;> omega
  have hlt : (n : Int) < 65536 := by omega
  have HN := Lib.hid hn
  clear hn
  go_enter Try.func127, Try.ntmps127
  go_wp2_with (at_make; refine wpList_make_row _ rfl _ _ 38 rfl 3 j0 (.int .i64 0) Try.underlying38 HJ.out HJ0.out HJ1.out rfl _ _ n rfl rfl (by rw [HJ2.out]; have := HN.out; omega) (by have := HN.out; omega) ?_)
  go_loopw [14] (fun i wr => UpTo w (w.heap.size + 1) w.heap.size n i wr) (fun i _ => n - (intOf i).toNat)
  case atStart =>
    refine ⟨0, Nat.zero_le _, rfl, by (show Grew _ _; repeat (first | exact Grew.refl _ | refine Grew.alloc ?_ _ | refine Grew.drew ?_ | refine Grew.more ?_ _)), ?_⟩
    refine ⟨Blok.new _ _ _ _ (by rw [World.size_alloc]), ?_, by omega, by have := HN.out; omega⟩
    refine Blok.alloc ?_ _
    rw [made_nums n (fun j => if j < 0 then j else 0) (fun i => by simp)]
    exact Blok.new _ _ _ _ rfl
  case round =>
    obtain ⟨k, hk, rfl, hg, hu⟩ := hrel
    have c0 := hu.top.cell 0
    have c1 := hu.row.cell k
    have z1 := hu.row.thaw k
    have HG := Lib.hid hg
    have HV := Lib.hid hu
    simp at c0
    clear hg hu hif hlt hmx hmn
    have hk40 : k ≤ 40 := by have := HN.out; omega
    by_cases h : k < n
    · rw [numsV_at n _ k h] at c1
      have HW : Hid (∀ W g h c, UfAt W g h n (fun i => if i = k then k else (fun j => if j < k then j else 0) i) c → UfAt W g h n (fun j => if j < k + 1 then j else 0) c) := Lib.hid (by
        intro W g h c hh
        have e : (fun i => if i = k then k else (fun j => if j < k then j else 0) i) = (fun j => if j < k + 1 then j else 0) := by
          funext i
          by_cases e1 : i = k
          · subst e1; simp
          · by_cases e2 : i < k
            · simp [e1, e2]; omega
            · rw [if_neg e1, if_neg (by omega)]; simp [e2]
        rw [← e]
        exact hh)
      have HS := Lib.hid (HW.out _ _ _ _ (HV.out.set k k))
      have HGS := Lib.hid (HG.out.setCell (a := ⟨w.heap.size, k, none⟩) (Nat.le_refl _) (.int .i64 (k : Int)))
      clear HW HV HG
      go_wp2
      refine ⟨⟨k + 1, by omega, by go_num, ?_, ?_⟩, ?_⟩
      · with_reducible exact HGS.out
      · with_reducible exact HS.out
      · simp only [intOf]
        omega
    · obtain rfl : k = n := by omega
      go_wp2
      go_ret
      refine ⟨_, _, rfl, by omega, by omega, HG.out, _, HV.out, ?_⟩
      refine ⟨fun i hi => ?_, fun i hi => ?_, fun i hi _ => rfl⟩
      · simp only [if_pos hi]; omega
      · simp only [if_pos hi]
theorem same_all (x y p q : Int) (w : World) (g h n : Nat) (f r : Nat → Nat) (c : Int) (u : UfAt w g h n f c) (hl : Leads n f r) (hp : findI n r x = p) (hq : findI n r y = q) :
    Calls Try.prog 40 #[.pointer (some ⟨g, 0, none⟩), .int .i64 x, .int .i64 y] w fun e w' => e = .returned (.bool (decide (0 ≤ p) && (p == q))) ∧ Found2 w g h n r c w' := by
  have HU := Lib.hid u
  have HL := Lib.hid hl
  have HP := Lib.hid hp
  have HQ := Lib.hid hq
  clear u hl hp hq
  by_cases h1 : 0 ≤ p
  all_goals
    go_enter Try.func40, Try.ntmps40
    go_wp2_with (first | (go_at_call_of 129 (Value.int .i64 x); (with_reducible refine (find_first x _ _ g h n f r c HU.out HL.out HP.out).mono ?_); rintro e w1 ⟨rfl, t1⟩; have T1 := Lib.hid t1; clear t1) | (go_at_call 129; (with_reducible refine (find_next y _ _ _ g h n r c T1.out HQ.out).mono ?_); rintro e w2 ⟨rfl, t2⟩; have T2 := Lib.hid t2; clear t2))
    go_ret
    refine ⟨?_, T2.out⟩
    first | (rw [decide_eq_true h1]; rfl) | (rw [decide_eq_false (by omega)]; rfl)
theorem len_any (w : World) (g h n : Nat) (f : Nat → Nat) (c : Int) (u : UfAt w g h n f c) : Calls Try.prog 41 #[.pointer (some ⟨g, 0, none⟩)] w fun e w' => e = .returned (.int .i64 n) ∧ w' = w := by
  have c0 := u.top.cell 0
  simp at c0
  clear u
  go_enter Try.func41, Try.ntmps41
  go_wp2
  go_ret
  exact ⟨rfl, rfl⟩
end Go.Proofs.Ytfdjnhnchibejaa

/- Layer 6: the document's own classes: rows of numbers. No condition. -/
namespace Go.Proofs.Ytfdjnhnchibejaa
open Go.RowKit
attribute [local go_sem] more_cell more_frozen more_more more_setCell more_of_drew more_of_drewN lt_more le_more past_cell past_cell2 past_frozen past_frozen2 past_setCell past_setCell2 mid_cell mid_frozen mid_setCell
attribute [local go_sem ↓] Go.wp_at_zero Go.wp_at_succ

/-- A slice of n numbers, by a function, is left; nothing else has turned. -/
def Nums (w : World) (A0 : Option Addr) (n : Nat) (f : Nat → Nat) (e : Ending) (w' : World) : Prop := ∃ A c, e = .returned (.slice A n c) ∧ Grew w w' ∧ Row w' A (numsL n f) ∧ (A = A0 ∨ ∀ p, A = some p → w.heap.size ≤ p.block)
def RNewAt (w : World) (n : Nat) (v i : Value) (wr : World) : Prop :=
  ∃ (k : Nat) (A : Option Addr) (c : Nat), k ≤ n ∧ i = .int .i64 k ∧ v = .slice A k c ∧ wr.ownsRow w.heap.size 3 1 (.slice A k c) k (numsL k id) ∧ Grew w wr
theorem rnew_any (n : Nat) (hn : n ≤ 100000) (w : World) : Calls Try.prog 36 #[.int .i64 n] w (Nums w none n id) := by
  go_enter Try.func36, Try.ntmps36
  go_wp2
  go_loopw [3, 4] (fun v i wr => RNewAt w n v i wr) (fun _ i _ => n - (intOf i).toNat)
  case atStart => exact ⟨0, none, 0, Nat.zero_le _, rfl, rfl, own_none _ _ _ _, Grew.refl _⟩
  case round =>
    obtain ⟨k, A, c, hk, rfl, rfl, ho, hg⟩ := hrel
    have HO := Lib.hid ho
    have HG := Lib.hid hg
    clear ho hg
    by_cases h : k < n
    · go_wp2_with (at_builtin; refine wpList_app rfl (.tmp 10) (.tmp 12) 38 3 rfl w (.int .i64 0) 8 Try.underlying38 infoInt3 rfl (by decide) _ k (numsL k id) rfl (own_alloc HO.out _) _ 1 1 [.int .i64 k] rfl rfl (row_one _ _ _ _ rfl) (by simp; rfl) (by omega) (HG.out.alloc _) ?_)
      intro A2 c2 w2 ho2 hr2 hg2 _ _
      have HO2 := Lib.hid (by have h2 := ho2; rw [show Value.int .i64 (k : Nat) = Value.int .i64 (id k : Nat) from rfl, numsL_snoc] at h2; exact h2 : w2.ownsRow w.heap.size 3 1 (.slice A2 (k + 1) c2) (k + 1) (numsL (k + 1) id))
      have HG2 := Lib.hid hg2
      clear ho2 hr2 hg2 HO HG
      go_wp2
      refine ⟨⟨k + 1, A2, c2, by omega, by go_num, rfl, HO2.out, HG2.out⟩, by simp only [intOf]; omega⟩
    · obtain rfl : k = n := by omega
      go_wp2
      go_ret
      obtain ⟨A', c', h1, h2⟩ := own_row HO.out
      injection h1 with h1 _ h3
      subst h1
      exact ⟨_, _, rfl, HG.out, h2, Or.inr fun p hp => own_base HO.out p.block (by rw [hp]; rfl)⟩
/-- The row of the document's own, while it is turned. -/
def RJoinAt (w : World) (g c n : Nat) (f : Nat → Nat) (x y : Nat) (i : Value) (wr : World) : Prop :=
  ∃ k : Nat, k ≤ n ∧ i = .int .i64 k ∧ wr.ownsRow w.heap.size 3 1 (.slice (some ⟨g, 0, none⟩) n c) n (numsL n (fun j => if j < k then (if f j = y then x else f j) else f j)) ∧ Grew w wr
theorem rjoin_no (A : Option Addr) (n c : Nat) (f : Nat → Nat) (a b : Int) (w : World) (hr : Row w A (numsL n f)) (ho : ¬ (0 ≤ a ∧ 0 ≤ b ∧ a < n ∧ b < n)) :
    Calls Try.prog 37 #[.slice A n c, .int .i64 a, .int .i64 b] w (Nums w A n f) := by
  have HR := Lib.hid hr
  clear hr
  rcases (by omega : a < 0 ∨ (0 ≤ a ∧ b < 0) ∨ (0 ≤ a ∧ 0 ≤ b ∧ (n : Int) ≤ a) ∨ (0 ≤ a ∧ 0 ≤ b ∧ a < n ∧ (n : Int) ≤ b)) with h1 | ⟨h1, h2⟩ | ⟨h1, h2, h3⟩ | ⟨h1, h2, h3, h4⟩
  all_goals
    clear ho
    go_enter Try.func37, Try.ntmps37
    go_wp2
    go_ret
    exact ⟨_, _, rfl, Grew.refl _, HR.out, Or.inl rfl⟩
set_option maxHeartbeats 1000000 in
theorem rjoin_yes (A : Option Addr) (n c : Nat) (f : Nat → Nat) (a b p q : Nat) (w : World) (hr : Row w A (numsL n f)) (hn : n ≤ 100000) (ha : a < n) (hb : b < n) (hp : f a = p) (hq : f b = q) :
    Calls Try.prog 37 #[.slice A n c, .int .i64 a, .int .i64 b] w (Nums w A n (joinR f p q)) := by
  obtain ⟨B, o, rfl, hB, ca⟩ := hr.nums ha
  obtain ⟨B', o', hA', _, cb⟩ := hr.nums hb
  injection hA' with hA'
  injection hA' with e1 e2 _
  subst e1 e2
  rw [hp] at ca
  rw [hq] at cb
  have HR := Lib.hid hr
  clear hr hp hq
  obtain ⟨x, y, hxy, hx, hlt⟩ : ∃ x y, joinR f p q = (fun j => if f j = y then x else f j) ∧ ((q < p ∧ x = q ∧ y = p) ∨ (p ≤ q ∧ x = p ∧ y = q)) ∧ True := by
    rcases (by omega : q < p ∨ p ≤ q) with h | h
    · exact ⟨q, p, by unfold joinR; rw [Nat.max_eq_left (by omega), Nat.min_eq_right (by omega)], Or.inl ⟨h, rfl, rfl⟩, trivial⟩
    · exact ⟨p, q, by unfold joinR; rw [Nat.max_eq_right (by omega), Nat.min_eq_left (by omega)], Or.inr ⟨h, rfl, rfl⟩, trivial⟩
  have HXY := Lib.hid hxy
  clear hxy hlt
  rcases hx with ⟨hlt, rfl, rfl⟩ | ⟨hlt, rfl, rfl⟩
  all_goals
    go_enter Try.func37, Try.ntmps37
    go_wp2
    go_quiet (fail)
    go_wp2_with (at_builtin; refine wpList_app rfl (.tmp 43) (.tmp 44) 38 3 rfl w (.int .i64 0) 8 Try.underlying38 infoInt3 rfl (by decide) _ 0 [] rfl (own_empty _ _ _ _ _ rfl (by show _ ≤ _; exact Nat.le_refl _)) _ n c (numsL n f) rfl (numsL_len n f) ?p1 (numsL_one n f) (by omega) ?p2 ?_)
    case p1 => exact row_alloc (HR.out.grew ((Grew.refl w).drewN _)) _
    case p2 => exact ((Grew.refl w).drewN _).alloc _
    intro A2 c2 w2 ho2 hr2 hg2 _ _
    obtain ⟨g, cap, hv, hrest⟩ := World.ownsRow.form ho2 (by omega)
    injection hv with hv1 _ hv3
    subst hv1 hv3
    have HO2 := Lib.hid ho2
    have HG2 := Lib.hid hg2
    clear ho2 hr2 hg2 hrest HR ca cb
    go_wp2
    go_loopw [10] (fun i wr => RJoinAt w g c2 n f x y i wr) (fun i _ => n - (intOf i).toNat)
    case atStart => exact ⟨0, Nat.zero_le _, rfl, by simpa using HO2.out, HG2.out⟩
    case round =>
      obtain ⟨k, hk, rfl, hok, hgk⟩ := hrel
      by_cases h : k < n
      · have c0 := hok.cellAt k (by omega)
        rw [numsL_at _ _ _ h] at c0
        simp only [Nat.lt_irrefl, if_false] at c0
        have z0 := hok.frozenAt k
        have hgb := World.ownsRow.lt hok g rfl
        have hs := hok.stored k (.int .i64 (x : Nat))
        rw [numsL_set] at hs
        have HS := Lib.hid hs
        have HO := Lib.hid hok
        have HG := Lib.hid hgk
        clear hok hgk hs
        by_cases e : f k = y
        · have t1 : ((f k : Int) == (y : Int)) = true := by rw [beq_iff_eq]; omega
          have HN := Lib.hid (numsL_congr n (fun i => if i = k then x else (fun j => if j < k then (if f j = y then x else f j) else f j) i) (fun j => if j < k + 1 then (if f j = y then x else f j) else f j) (by
            intro i _
            by_cases e1 : i = k
            · subst e1; simp [e]
            · by_cases e2 : i < k
              · simp [e1, e2, show i < k + 1 by omega]
              · simp [e1, e2, show ¬ i < k + 1 by omega]))
          generalize f k = fk at c0 t1
          clear e
          go_wp2
          refine ⟨⟨k + 1, by omega, by go_num, by rw [← HN.out]; exact HS.out.1, HG.out.setCell hgb.1 _⟩, by simp only [intOf]; omega⟩
        · have t1 : ((f k : Int) == (y : Int)) = false := by rw [beq_eq_false_iff_ne]; omega
          have HN := Lib.hid (numsL_congr n (fun j => if j < k then (if f j = y then x else f j) else f j) (fun j => if j < k + 1 then (if f j = y then x else f j) else f j) (by
            intro i _
            by_cases e1 : i = k
            · subst e1; simp [e]
            · by_cases e2 : i < k
              · simp [e2, show i < k + 1 by omega]
              · simp [e2, show ¬ i < k + 1 by omega]))
          generalize f k = fk at c0 t1
          clear e
          go_wp2
          refine ⟨⟨k + 1, by omega, by go_num, by rw [← HN.out]; exact HO.out, HG.out⟩, by simp only [intOf]; omega⟩
      · obtain rfl : k = n := by omega
        have HO := Lib.hid hok
        have HG := Lib.hid hgk
        clear hok hgk
        go_wp2
        go_ret
        obtain ⟨A', c', h1, h2⟩ := own_row HO.out
        injection h1 with h1 _ h3
        subst h1
        refine ⟨_, _, rfl, HG.out, ?_, Or.inr fun p hp => own_base HO.out p.block (by rw [hp]; rfl)⟩
        rw [HXY.out, ← numsL_congr _ _ _ (fun i hi => if_pos hi)]
        exact h2
end Go.Proofs.Ytfdjnhnchibejaa

/- Layer 6: classes of a call's own, by what they tell; the page's example. No condition. -/
namespace Go.Proofs.Ytfdjnhnchibejaa
open Go.RowKit
attribute [local go_sem] more_cell more_frozen more_more more_setCell more_of_drew more_of_drewN lt_more le_more past_cell past_cell2 past_frozen past_frozen2 past_setCell past_setCell2 mid_cell mid_frozen mid_setCell
attribute [local go_sem ↓] Go.wp_at_zero Go.wp_at_succ

/-- How many classes. -/
def rootsN : Nat → (Nat → Nat) → Nat
  | 0, _ => 0
  | n + 1, r => rootsN n r + if r n = n then 1 else 0
theorem rootsN_le (n : Nat) (r : Nat → Nat) : rootsN n r ≤ n := by
  induction n with
  | zero => exact Nat.le_refl _
  | succ n ih => show rootsN n r + _ ≤ _; split <;> omega
theorem rootsN_id (n : Nat) : rootsN n id = n := by
  induction n with
  | zero => rfl
  | succ n ih => show rootsN n id + (if id n = n then 1 else 0) = _; rw [ih]; simp
theorem rootsN_pos (n : Nat) (r : Nat → Nat) (p : Nat) (hp : p < n) (h : r p = p) : 0 < rootsN n r := by
  induction n with
  | zero => omega
  | succ n ih =>
    show 0 < rootsN n r + _
    by_cases e : p = n
    · subst e; rw [if_pos h]; omega
    · have := ih (by omega); omega
theorem rootsN_less (n m : Nat) (r r' : Nat → Nat) (hm : r m = m) (h : ∀ i, i < n → (r' i = i ↔ r i = i ∧ i ≠ m)) : rootsN n r' + (if m < n then 1 else 0) = rootsN n r := by
  induction n with
  | zero => simp [rootsN]
  | succ n ih =>
    have := ih (fun i hi => h i (by omega))
    have hn := h n (by omega)
    show rootsN n r' + (if r' n = n then 1 else 0) + _ = rootsN n r + (if r n = n then 1 else 0)
    by_cases e : n = m
    · subst e
      rw [if_neg (fun x => (hn.1 x).2 rfl), if_pos hm, if_pos (by omega)]
      rw [if_neg (by omega)] at this
      omega
    · by_cases e2 : r n = n
      · rw [if_pos (hn.2 ⟨e2, e⟩), if_pos e2]
        by_cases e3 : m < n
        · rw [if_pos (by omega)]; rw [if_pos e3] at this; omega
        · rw [if_neg (by omega)]; rw [if_neg e3] at this; omega
      · rw [if_neg (fun x => e2 (hn.1 x).1), if_neg e2]
        by_cases e3 : m < n
        · rw [if_pos (by omega)]; rw [if_pos e3] at this; omega
        · rw [if_neg (by omega)]; rw [if_neg e3] at this; omega
theorem rootsN_join (n : Nat) (r : Nat → Nat) (hl : Least n r) {a b : Nat} (ha : a < n) (hb : b < n) (hne : r a ≠ r b) : rootsN n (joinR r (r a) (r b)) + 1 = rootsN n r := by
  have h1 := hl.idem a ha
  have h2 := hl.idem b hb
  have h3 := hl.le a ha
  have h4 := hl.le b hb
  have := rootsN_less n (max (r a) (r b)) r (joinR r (r a) (r b)) (by
    rcases Nat.le_total (r a) (r b) with h7 | h7
    · rw [Nat.max_eq_right h7, h2]
    · rw [Nat.max_eq_left h7, h1]) (fun i hi => by
    have h5 := hl.idem i hi
    unfold joinR
    by_cases e : r i = max (r a) (r b)
    · rw [if_pos e]
      constructor
      · intro h
        exfalso
        have h8 : r (min (r a) (r b)) = min (r a) (r b) := by
          rcases Nat.le_total (r a) (r b) with h7 | h7
          · rw [Nat.min_eq_left h7, h1]
          · rw [Nat.min_eq_right h7, h2]
        rw [h] at h8
        omega
      · rintro ⟨e1, e2⟩
        omega
    · rw [if_neg e]
      exact ⟨fun h => ⟨h, by omega⟩, fun h => h.1⟩)
  rw [if_pos (by omega)] at this
  exact this
/-- Classes of a call's own, above u: each number's class is r. -/
structure UfS (u : World) (g h n : Nat) (r : Nat → Nat) (w : World) : Prop where
  grew : Grew u w
  gu : u.heap.size ≤ g
  hu : u.heap.size ≤ h
  least : Least n r
  lies : ∃ f, UfAt w g h n f (rootsN n r) ∧ Leads n f r
theorem UfS.small {u : World} {g h n : Nat} {r : Nat → Nat} {w : World} (s : UfS u g h n r w) : n ≤ 65536 := by
  obtain ⟨f, a, _⟩ := s.lies
  exact a.small
theorem UfS.lt {u : World} {g h n : Nat} {r : Nat → Nat} {w : World} (s : UfS u g h n r w) : g < w.heap.size ∧ h < w.heap.size := by
  obtain ⟨f, a, _⟩ := s.lies
  exact ⟨a.top.lt, a.row.lt⟩
theorem UfS.more {u : World} {g h n : Nat} {r : Nat → Nat} {w : World} (s : UfS u g h n r w) (x : Xs) : UfS u g h n r (Go.Proofs.Ytfdjnhnchibejaa.more w x) := by
  obtain ⟨f, a, b⟩ := s.lies
  exact ⟨s.grew.more x, s.gu, s.hu, s.least, f, a.more x, b⟩
theorem UfS.on {u w w' : World} {g h n : Nat} {r : Nat → Nat} (s : UfS u g h n r w) (k : Grew w w') : UfS u g h n r w' := by
  obtain ⟨x, rfl⟩ := k
  exact s.more x
theorem UfS.drew {u : World} {g h n : Nat} {r : Nat → Nat} {w : World} (s : UfS u g h n r w) : UfS u g h n r w.drew := s.on ((Grew.refl w).drew)
theorem UfS.drewN {u : World} {g h n : Nat} {r : Nat → Nat} {w : World} (s : UfS u g h n r w) (k : Nat) : UfS u g h n r (w.drewN k) := s.on ((Grew.refl w).drewN k)
/-- Behind a turn of these classes. -/
theorem UfS.keep {u w w' : World} {g h n : Nat} {r r' : Nat → Nat} (s : UfS u g h n r w) (k : Keep2 w w' g h) (hl : Least n r') (hf : ∃ f, UfAt w' g h n f (rootsN n r') ∧ Leads n f r') : UfS u g h n r' w' :=
  ⟨k.grew s.grew s.gu s.hu, s.gu, s.hu, hl, hf⟩
/-- The row of a slice is none of these. -/
def Off (A : Option Addr) (g h : Nat) : Prop := ∀ p, A = some p → p.block ≠ g ∧ p.block ≠ h
theorem UfS.turn {u w w' : World} {g h n : Nat} {r : Nat → Nat} {c : Int} (s : UfS u g h n r w) (hc : c = rootsN n r) (k : Found2 w g h n r c w') : UfS u g h n r w' ∧ Keep2 w w' g h := by
  subst hc
  exact ⟨s.keep (k.1.keep g) s.least k.2, k.1.keep g⟩
theorem uf_new (n : Nat) (hn : n ≤ 40) (w : World) : Calls Try.prog 127 #[.int .i64 n] w fun e w' => ∃ g h, e = .returned (.pointer (some ⟨g, 0, none⟩)) ∧ UfS w g h n id w' ∧ Grew w w' :=
  (new_any n hn w).mono fun e w' ⟨g, h, he, hg, hh, hG, hf⟩ => ⟨g, h, he, ⟨hG, hg, hh, ⟨fun i _ => Nat.le_refl i, fun _ _ => rfl⟩, by rw [rootsN_id]; exact hf⟩, hG⟩
theorem uf_find (a x : Int) (u w : World) (g h n : Nat) (r : Nat → Nat) (s : UfS u g h n r w) (hx : findI n r a = x) :
    Calls Try.prog 129 #[.pointer (some ⟨g, 0, none⟩), .int .i64 a] w fun e w' => e = .returned (.int .i64 x) ∧ UfS u g h n r w' ∧ Keep2 w w' g h := by
  obtain ⟨f, ha, hl⟩ := s.lies
  exact (find_first a x w g h n f r _ ha hl hx).mono fun e w' ⟨he, hk⟩ => ⟨he, s.turn rfl hk⟩
def sameB (n : Nat) (r : Nat → Nat) (a b : Int) : Bool := decide (0 ≤ findI n r a) && (findI n r a == findI n r b)
theorem uf_same (a b : Int) (u w : World) (g h n : Nat) (r : Nat → Nat) (s : UfS u g h n r w) (t : Bool) (ht : sameB n r a b = t) :
    Calls Try.prog 40 #[.pointer (some ⟨g, 0, none⟩), .int .i64 a, .int .i64 b] w fun e w' => e = .returned (.bool t) ∧ UfS u g h n r w' ∧ Keep2 w w' g h := by
  obtain ⟨f, ha, hl⟩ := s.lies
  subst ht
  exact (same_all a b _ _ w g h n f r _ ha hl rfl rfl).mono fun e w' ⟨he, hk⟩ => ⟨he, s.turn rfl hk⟩
theorem uf_len (u w : World) (g h n : Nat) (r : Nat → Nat) (s : UfS u g h n r w) :
    Calls Try.prog 41 #[.pointer (some ⟨g, 0, none⟩)] w fun e w' => e = .returned (.int .i64 n) ∧ w' = w := by
  obtain ⟨f, ha, hl⟩ := s.lies
  exact len_any w g h n f _ ha
/-- What Join makes of each number's class, and its answer. -/
def inB (n : Nat) (a b : Int) : Prop := 0 ≤ a ∧ 0 ≤ b ∧ a < n ∧ b < n
instance inB_dec (n : Nat) (a b : Int) : Decidable (inB n a b) := by unfold inB; infer_instance
def joinI (n : Nat) (r : Nat → Nat) (a b : Int) : Nat → Nat := if inB n a b then joinR r (r a.toNat) (r b.toNat) else r
def joinsB (n : Nat) (r : Nat → Nat) (a b : Int) : Bool := if inB n a b then r a.toNat != r b.toNat else false
theorem Least.joinI {n : Nat} {r : Nat → Nat} (h : Least n r) (a b : Int) : Least n (joinI n r a b) := by
  unfold Go.Proofs.Ytfdjnhnchibejaa.joinI
  split
  · rename_i hi
    unfold inB at hi
    exact h.join (by omega) (by omega)
  · exact h
theorem uf_join (a b : Int) (u w : World) (g h n : Nat) (r r' : Nat → Nat) (s : UfS u g h n r w) (t : Bool) (ht : joinsB n r a b = t) (hr' : joinI n r a b = r') :
    Calls Try.prog 128 #[.pointer (some ⟨g, 0, none⟩), .int .i64 a, .int .i64 b] w fun e w' => e = .returned (.bool t) ∧ UfS u g h n r' w' ∧ Keep2 w w' g h := by
  subst ht hr'
  obtain ⟨f, ha, hl⟩ := s.lies
  by_cases hi : inB n a b
  · have hi' := hi
    unfold inB at hi'
    have e1 : joinI n r a b = joinR r (r a.toNat) (r b.toNat) := if_pos hi
    have e2 : joinsB n r a b = (r a.toNat != r b.toNat) := if_pos hi
    have hp : findI n r a = (r a.toNat : Nat) := if_pos ⟨hi'.1, hi'.2.2.1⟩
    have hq : findI n r b = (r b.toNat : Nat) := if_pos ⟨hi'.2.1, hi'.2.2.2⟩
    rw [e1, e2]
    by_cases e : r a.toNat = r b.toNat
    · rw [e, joinR_same, bne_self_eq_false]
      exact (join_no a b _ _ w g h n f r _ ha hl hp hq (Or.inr (Or.inr (by rw [e])))).mono fun e' w' ⟨he, hk, hf⟩ => ⟨he, s.keep hk s.least hf, hk⟩
    · have e3 : (r a.toNat != r b.toNat) = true := by rw [bne_iff_ne]; exact e
      rw [e3]
      have hj := rootsN_join n r s.least (a := a.toNat) (b := b.toNat) (by omega) (by omega) e
      refine (join_yes a b _ _ w g h n f r _ ha hl s.least hp hq e (by omega) ?_).mono fun e' w' ⟨he, hk, hf⟩ => ⟨he, s.keep hk (s.least.join (by omega) (by omega)) ?_, hk⟩
      · have h1 := rootsN_le n r
        have h2 := s.small
        omega
      · rw [show ((rootsN n (joinR r (r a.toNat) (r b.toNat)) : Nat) : Int) = (rootsN n r : Int) - 1 by omega]
        exact hf
  · have e1 : joinI n r a b = r := if_neg hi
    have e2 : joinsB n r a b = false := if_neg hi
    rw [e1, e2]
    have h1 : findI n r a < 0 ∨ findI n r b < 0 ∨ findI n r a = findI n r b := by
      unfold inB at hi
      by_cases h0 : 0 ≤ a ∧ a < n
      · refine Or.inr (Or.inl ?_)
        unfold findI
        rw [if_neg (by omega)]
        omega
      · refine Or.inl ?_
        unfold findI
        rw [if_neg h0]
        omega
    exact (join_no a b _ _ w g h n f r _ ha hl rfl rfl h1).mono fun e' w' ⟨he, hk, hf⟩ => ⟨he, s.keep hk s.least hf, hk⟩
end Go.Proofs.Ytfdjnhnchibejaa

/- Layer 6: all classes, in numbers: plain mathematics. No condition but that each class is told by its least number. -/
namespace Go.Proofs.Ytfdjnhnchibejaa

/-- The numbers below m that tell a class; the numbers of a class; all classes, of the numbers below m. -/
def rootsL (m : Nat) (r : Nat → Nat) : List Nat := (List.range m).filter fun i => r i == i
def clsL (m : Nat) (r : Nat → Nat) (p : Nat) : List Nat := (List.range m).filter fun k => r k == p
def clsM (m : Nat) (r : Nat → Nat) : List (List Nat) := (rootsL m r).map (clsL m r)
/-- The classes whose least number is below i, of the numbers below n. -/
def clsA (i n : Nat) (r : Nat → Nat) : List (List Nat) := (rootsL i r).map (clsL n r)
theorem rootsL_in {m : Nat} {r : Nat → Nat} (h : r m = m) : rootsL (m + 1) r = rootsL m r ++ [m] := by
  unfold rootsL
  rw [List.range_succ, List.filter_append]
  simp [h]
theorem rootsL_out {m : Nat} {r : Nat → Nat} (h : r m ≠ m) : rootsL (m + 1) r = rootsL m r := by
  unfold rootsL
  rw [List.range_succ, List.filter_append]
  simp [h]
theorem rootsL_len (m : Nat) (r : Nat → Nat) : (rootsL m r).length = rootsN m r := by
  induction m with
  | zero => rfl
  | succ m ih =>
    show _ = rootsN m r + _
    by_cases h : r m = m
    · rw [rootsL_in h, if_pos h, List.length_append, ih]; rfl
    · rw [rootsL_out h, if_neg h, ih]; rfl
theorem rootsL_mem {m p : Nat} {r : Nat → Nat} (h : p ∈ rootsL m r) : p < m ∧ r p = p := by
  unfold rootsL at h
  simpa using h
theorem rootsL_at {m : Nat} {r : Nat → Nat} : ∀ {j q : Nat}, (rootsL m r)[j]? = some q → rootsN q r = j := by
  induction m with
  | zero => intro j q h; simp [rootsL] at h
  | succ m ih =>
    intro j q h
    by_cases hm : r m = m
    · rw [rootsL_in hm] at h
      by_cases hj : j < (rootsL m r).length
      · rw [List.getElem?_append_left hj] at h
        exact ih h
      · rw [List.getElem?_append_right (by omega)] at h
        have : j - (rootsL m r).length = 0 := by
          rcases Nat.eq_zero_or_pos (j - (rootsL m r).length) with e | e
          · exact e
          · rw [List.getElem?_eq_none (by simp only [List.length_singleton]; omega)] at h; cases h
        rw [this] at h
        injection h with h
        subst h
        rw [← rootsL_len]
        omega
    · rw [rootsL_out hm] at h
      exact ih h
theorem rootsN_mono {r : Nat → Nat} {a b : Nat} (h : a ≤ b) : rootsN a r ≤ rootsN b r := by
  induction b with
  | zero => obtain rfl : a = 0 := by omega
            exact Nat.le_refl _
  | succ b ih =>
    rcases Nat.lt_or_ge b a with h1 | h1
    · obtain rfl : a = b + 1 := by omega
      exact Nat.le_refl _
    · have := ih h1
      show _ ≤ rootsN b r + _
      omega
theorem rootsN_lt {r : Nat → Nat} {p m : Nat} (h : p < m) (hp : r p = p) : rootsN p r < rootsN m r := by
  have h1 : rootsN (p + 1) r = rootsN p r + 1 := by show _ + _ = _; rw [if_pos hp]
  have := rootsN_mono (r := r) (show p + 1 ≤ m by omega)
  omega
theorem rootsL_find {m p : Nat} {r : Nat → Nat} (h : p < m) (hp : r p = p) : (rootsL m r)[rootsN p r]? = some p := by
  have hl : rootsN p r < (rootsL m r).length := by rw [rootsL_len]; exact rootsN_lt h hp
  have hm : p ∈ rootsL m r := by unfold rootsL; simpa using ⟨h, hp⟩
  obtain ⟨j, hj, e⟩ := List.getElem_of_mem hm
  have h1 : (rootsL m r)[j]? = some p := by rw [List.getElem?_eq_getElem hj, e]
  rw [rootsL_at h1]
  exact h1
theorem clsM_len (m : Nat) (r : Nat → Nat) : (clsM m r).length = rootsN m r := by unfold clsM; rw [List.length_map, rootsL_len]
theorem clsL_in {m p : Nat} {r : Nat → Nat} (h : r m = p) : clsL (m + 1) r p = clsL m r p ++ [m] := by
  unfold clsL
  rw [List.range_succ, List.filter_append]
  simp [h]
theorem clsL_out {m p : Nat} {r : Nat → Nat} (h : r m ≠ p) : clsL (m + 1) r p = clsL m r p := by
  unfold clsL
  rw [List.range_succ, List.filter_append]
  simp [h]
theorem clsL_none {n i p : Nat} {r : Nat → Nat} (hl : Least n r) (hi : i ≤ n) (hp : i ≤ p) : clsL i r p = [] := by
  unfold clsL
  rw [List.filter_eq_nil_iff]
  intro k hk
  have hk := List.mem_range.1 hk
  have := hl.le k (by omega)
  simp only [beq_iff_eq]
  omega
theorem clsL_le (m p : Nat) (r : Nat → Nat) : (clsL m r p).length ≤ m := by
  unfold clsL
  refine Nat.le_trans (List.length_filter_le _ _) ?_
  simp
theorem clsM_root {n m : Nat} {r : Nat → Nat} (hl : Least n r) (hm : m < n) (h : r m = m) : clsM (m + 1) r = clsM m r ++ [[m]] := by
  unfold clsM
  rw [rootsL_in h, List.map_append]
  congr 1
  · refine List.map_congr_left fun p hp => ?_
    exact clsL_out (by have := (rootsL_mem hp).1; omega)
  · show [clsL (m + 1) r m] = _
    rw [clsL_in h, clsL_none hl (by omega) (Nat.le_refl _)]
    rfl
theorem clsM_at {m p : Nat} {r : Nat → Nat} (h : p < m) (hp : r p = p) : (clsM m r)[rootsN p r]? = some (clsL m r p) := by
  unfold clsM
  rw [List.getElem?_map, rootsL_find h hp]
  rfl
theorem clsM_step {m p : Nat} {r : Nat → Nat} (h : r m = p) (hp : p < m) (hpp : r p = p) : clsM (m + 1) r = (clsM m r).set (rootsN p r) (clsL m r p ++ [m]) := by
  apply List.ext_getElem?
  intro j
  unfold clsM
  rw [rootsL_out (by omega)]
  by_cases hj : j = rootsN p r
  · subst hj
    have hlt : rootsN p r < (List.map (clsL m r) (rootsL m r)).length := by rw [List.length_map, rootsL_len]; exact rootsN_lt hp hpp
    rw [List.getElem?_map, rootsL_find hp hpp, List.getElem?_set_self hlt]
    show some (clsL (m + 1) r p) = _
    rw [clsL_in h]
  · rw [List.getElem?_set_ne (Ne.symm hj), List.getElem?_map, List.getElem?_map]
    cases hq : (rootsL m r)[j]? with
    | none => rfl
    | some q =>
      show some _ = some _
      rw [clsL_out]
      intro e
      rw [h] at e
      subst e
      exact hj (rootsL_at hq).symm
theorem clsA_in {i n : Nat} {r : Nat → Nat} (h : r i = i) : clsA (i + 1) n r = clsA i n r ++ [clsL n r i] := by
  unfold clsA
  rw [rootsL_in h, List.map_append]
  rfl
theorem clsA_out {i n : Nat} {r : Nat → Nat} (h : r i ≠ i) : clsA (i + 1) n r = clsA i n r := by
  unfold clsA
  rw [rootsL_out h]
theorem clsA_len (i n : Nat) (r : Nat → Nat) : (clsA i n r).length = rootsN i r := by unfold clsA; rw [List.length_map, rootsL_len]
/-- The place of the last list that holds a number. -/
def hasA (l : List Nat) (a : Int) : Bool := l.any fun k => (k : Int) == a
theorem hasA_iff (l : List Nat) (a : Int) : hasA l a = true ↔ ∃ k : Nat, (k : Int) = a ∧ k ∈ l := by
  unfold hasA
  simp only [List.any_eq_true, beq_iff_eq]
  exact ⟨fun ⟨k, h1, h2⟩ => ⟨k, h2, h1⟩, fun ⟨k, h1, h2⟩ => ⟨k, h2, h1⟩⟩
def lastI (ll : List (List Nat)) (a : Int) : Nat → Int
  | 0 => -1
  | i + 1 => if hasA (ll.getD i []) a = true then i else lastI ll a i
def lastK (l : List Nat) (a : Int) (i : Nat) (d : Int) : Nat → Int
  | 0 => d
  | k + 1 => if (l.getD k 0 : Int) = a then i else lastK l a i d k
theorem lastK_end (l : List Nat) (a : Int) (i : Nat) (d : Int) : lastK l a i d l.length = if hasA l a = true then (i : Int) else d := by
  have H : ∀ n, n ≤ l.length → lastK l a i d n = if hasA (l.take n) a = true then (i : Int) else d := by
    intro n
    induction n with
    | zero => intro _; simp [lastK, hasA]
    | succ n ih =>
      intro hn
      have hn' : n < l.length := by omega
      rw [lastK, ih (by omega), List.take_succ_eq_append_getElem hn']
      have e : l.getD n 0 = l[n] := by rw [List.getD_eq_getElem?_getD, List.getElem?_eq_getElem hn']; rfl
      rw [e]
      by_cases h1 : (l[n] : Int) = a
      · rw [if_pos h1, if_pos ((hasA_iff _ _).2 ⟨l[n], h1, List.mem_append_right _ (List.mem_singleton.2 rfl)⟩)]
      · rw [if_neg h1]
        have e2 : hasA (l.take n ++ [l[n]]) a = hasA (l.take n) a := by
          unfold hasA
          rw [List.any_append]
          simp [h1]
        rw [e2]
  have := H l.length (Nat.le_refl _)
  rwa [List.take_length] at this
/-- Its class's place. -/
def numI (n : Nat) (r : Nat → Nat) (a : Int) : Int := if 0 ≤ a ∧ a < n then rootsN (r a.toNat) r else -1
theorem lastI_all {n : Nat} {r : Nat → Nat} (hl : Least n r) (a : Int) : lastI (clsM n r) a (clsM n r).length = numI n r a := by
  have hat : ∀ i q, (rootsL n r)[i]? = some q → (clsM n r).getD i [] = clsL n r q := fun i q h => by
    unfold clsM
    rw [List.getD_eq_getElem?_getD, List.getElem?_map, h]
    rfl
  have hmem : ∀ q (k : Nat), k ∈ clsL n r q ↔ k < n ∧ r k = q := fun q k => by unfold clsL; simp
  have H : ∀ i, i ≤ (rootsL n r).length → lastI (clsM n r) a i = if 0 ≤ a ∧ a < n ∧ rootsN (r a.toNat) r < i then (rootsN (r a.toNat) r : Int) else -1 := by
    intro i
    induction i with
    | zero => intro _; rw [if_neg (by omega)]; rfl
    | succ i ih =>
      intro hi
      have hq : (rootsL n r)[i]? = some (rootsL n r)[i] := List.getElem?_eq_getElem hi
      have e := hat i _ hq
      have e2 := rootsL_at hq
      rw [lastI, ih (by omega), e]
      generalize (rootsL n r)[i] = q at *
      by_cases h1 : hasA (clsL n r q) a = true
      · rw [if_pos h1]
        obtain ⟨k, rfl, hk⟩ := (hasA_iff _ _).1 h1
        have hk := (hmem q k).1 hk
        rw [Int.toNat_natCast, hk.2, e2, if_pos (by omega)]
      · rw [if_neg h1]
        by_cases h2 : 0 ≤ a ∧ a < n
        · obtain ⟨k, rfl⟩ := Int.eq_ofNat_of_zero_le h2.1
          rw [Int.toNat_natCast]
          have hk : k < n := by omega
          have hne : r k ≠ q := fun e => h1 ((hasA_iff _ _).2 ⟨k, rfl, (hmem q k).2 ⟨hk, e⟩⟩)
          have hne2 : rootsN (r k) r ≠ i := fun e3 => by
            have h5 := rootsL_find (m := n) (r := r) (p := r k) (by have := hl.le k hk; omega) (hl.idem k hk)
            rw [e3, hq] at h5
            injection h5 with h5
            exact hne h5.symm
          by_cases h3 : rootsN (r k) r < i
          · rw [if_pos (by omega), if_pos (by omega)]
          · rw [if_neg (by omega), if_neg (by omega)]
        · rw [if_neg (by omega), if_neg (by omega)]
  rw [clsM_len, ← rootsL_len, H _ (Nat.le_refl _)]
  unfold numI
  by_cases h2 : 0 ≤ a ∧ a < n
  · obtain ⟨k, rfl⟩ := Int.eq_ofNat_of_zero_le h2.1
    rw [Int.toNat_natCast]
    have hk : k < n := by omega
    have := rootsN_lt (r := r) (p := r k) (m := n) (by have := hl.le k hk; omega) (hl.idem k hk)
    rw [if_pos h2, if_pos (by rw [rootsL_len]; omega)]
  · rw [if_neg h2, if_neg (by omega)]
end Go.Proofs.Ytfdjnhnchibejaa

/- Groups of numbers that are alike, in the order in which each first comes: plain mathematics. Condition: that they are alike is an equivalence. -/
namespace Go.Proofs.Ytfdjnhnchibejaa

structure Eqv (E : Nat → Nat → Bool) : Prop where
  refl : ∀ i, E i i = true
  symm : ∀ {i j}, E i j = true → E j i = true
  trans : ∀ {i j k}, E i j = true → E j k = true → E i k = true
/-- The first place from d on, of k, at which it is so; d + k if none. -/
def fstP (p : Nat → Bool) : Nat → Nat → Nat
  | d, 0 => d
  | d, k + 1 => if p d = true then d else fstP p (d + 1) k
theorem fstP_all (p : Nat → Bool) : ∀ (k d : Nat), d ≤ fstP p d k ∧ fstP p d k ≤ d + k ∧ (∀ j, d ≤ j → j < fstP p d k → p j = false) ∧ (fstP p d k < d + k → p (fstP p d k) = true) := by
  intro k
  induction k with
  | zero => intro d; exact ⟨Nat.le_refl _, Nat.le_refl _, fun j h1 h2 => by unfold fstP at h2; omega, fun h => by unfold fstP at h; omega⟩
  | succ k ih =>
    intro d
    unfold fstP
    by_cases h : p d = true
    · rw [if_pos h]
      exact ⟨Nat.le_refl _, by omega, fun j h1 h2 => by omega, fun _ => h⟩
    · rw [if_neg h]
      obtain ⟨h1, h2, h3, h4⟩ := ih (d + 1)
      refine ⟨by omega, by omega, fun j hj1 hj2 => ?_, fun hh => h4 (by omega)⟩
      by_cases e : j = d
      · subst e
        simpa using h
      · exact h3 j (by omega) hj2
/-- The first one that is like it. -/
def lst (E : Nat → Nat → Bool) (i : Nat) : Nat := fstP (fun j => E j i) 0 i
section
variable {E : Nat → Nat → Bool} (h : Eqv E)
theorem lst_le (E : Nat → Nat → Bool) (i : Nat) : lst E i ≤ i := by
  have := (fstP_all (fun j => E j i) i 0).2.1
  unfold lst
  omega
theorem lst_min (E : Nat → Nat → Bool) (i : Nat) {j : Nat} (hj : j < lst E i) : E j i = false := (fstP_all (fun j => E j i) i 0).2.2.1 j (Nat.zero_le _) hj
include h
theorem lst_rel (i : Nat) : E (lst E i) i = true := by
  rcases Nat.lt_or_ge (lst E i) i with h1 | h1
  · exact (fstP_all (fun j => E j i) i 0).2.2.2 (by unfold lst at h1; omega)
  · have := lst_le E i
    obtain e : lst E i = i := by omega
    rw [e]
    exact h.refl i
theorem lst_eq {i j : Nat} : lst E i = lst E j ↔ E i j = true := by
  constructor
  · intro e
    have h1 := lst_rel h i
    have h2 := lst_rel h j
    rw [e] at h1
    exact h.trans (h.symm h1) h2
  · intro e
    rcases Nat.lt_trichotomy (lst E i) (lst E j) with h1 | h1 | h1
    · have h2 := lst_min E j h1
      rw [h.trans (lst_rel h i) e] at h2
      cases h2
    · exact h1
    · have h2 := lst_min E i h1
      rw [h.trans (lst_rel h j) (h.symm e)] at h2
      cases h2
theorem lst_least (n : Nat) : Least n (lst E) := ⟨fun i _ => lst_le E i, fun i _ => (lst_eq h).2 (lst_rel h i)⟩
/-- The group's place. -/
theorem gix_eq {i j : Nat} : rootsN (lst E i) (lst E) = rootsN (lst E j) (lst E) ↔ E i j = true := by
  rw [← lst_eq h]
  constructor
  · intro e
    have h1 := rootsL_find (m := i + j + 1) (r := lst E) (p := lst E i) (by have := lst_le E i; omega) ((lst_eq h).2 (lst_rel h i))
    have h2 := rootsL_find (m := i + j + 1) (r := lst E) (p := lst E j) (by have := lst_le E j; omega) ((lst_eq h).2 (lst_rel h j))
    rw [e, h2] at h1
    injection h1 with h1
    exact h1.symm
  · intro e
    rw [e]
end
def gix (E : Nat → Nat → Bool) (i : Nat) : Nat := rootsN (lst E i) (lst E)
/-- The classes that there will be, of the numbers below m. -/
def clsP (m n : Nat) (r : Nat → Nat) : List (List Nat) := (rootsL n r).map (clsL m r)
theorem clsP_end (n : Nat) (r : Nat → Nat) : clsP n n r = clsM n r := rfl
theorem clsP_len (m n : Nat) (r : Nat → Nat) : (clsP m n r).length = rootsN n r := by unfold clsP; rw [List.length_map, rootsL_len]
theorem clsP_zero (n : Nat) (r : Nat → Nat) : clsP 0 n r = List.replicate (rootsN n r) [] := by
  unfold clsP
  rw [← rootsL_len]
  induction rootsL n r with
  | nil => rfl
  | cons x l ih => rw [List.map_cons, ih]; rfl
theorem clsP_at {m n p : Nat} {r : Nat → Nat} (h : p < n) (hp : r p = p) : (clsP m n r)[rootsN p r]? = some (clsL m r p) := by
  unfold clsP
  rw [List.getElem?_map, rootsL_find h hp]
  rfl
theorem clsP_step {m n p : Nat} {r : Nat → Nat} (h : r m = p) (hp : p < n) (hpp : r p = p) : clsP (m + 1) n r = (clsP m n r).set (rootsN p r) (clsL m r p ++ [m]) := by
  apply List.ext_getElem?
  intro j
  unfold clsP
  by_cases hj : j = rootsN p r
  · subst hj
    have hlt : rootsN p r < (List.map (clsL m r) (rootsL n r)).length := by rw [List.length_map, rootsL_len]; exact rootsN_lt hp hpp
    rw [List.getElem?_map, rootsL_find hp hpp, List.getElem?_set_self hlt]
    show some (clsL (m + 1) r p) = _
    rw [clsL_in h]
  · rw [List.getElem?_set_ne (Ne.symm hj), List.getElem?_map, List.getElem?_map]
    cases hq : (rootsL n r)[j]? with
    | none => rfl
    | some q =>
      show some _ = some _
      rw [clsL_out]
      intro e
      rw [h] at e
      subst e
      exact hj (rootsL_at hq).symm
theorem clsL_head {n m p : Nat} {r : Nat → Nat} (hl : Least n r) (hm : m ≤ n) (hp : p < m) (hpp : r p = p) : ∃ t, clsL m r p = p :: t := by
  induction m with
  | zero => omega
  | succ m ih =>
    by_cases e : p = m
    · subst e
      refine ⟨[], ?_⟩
      rw [clsL_in hpp, clsL_none hl (by omega) (Nat.le_refl _)]
      rfl
    · obtain ⟨t, ht⟩ := ih (by omega) (by omega)
      by_cases e2 : r m = p
      · exact ⟨t ++ [m], by rw [clsL_in e2, ht]; rfl⟩
      · exact ⟨t, by rw [clsL_out e2, ht]⟩
theorem clsM_get {n m j : Nat} {r : Nat → Nat} (hl : Least n r) (hm : m ≤ n) (hj : j < (clsM m r).length) : ∃ p t, (clsM m r)[j]? = some (p :: t) ∧ p < m ∧ r p = p ∧ rootsN p r = j ∧ p :: t = clsL m r p := by
  rw [clsM_len, ← rootsL_len] at hj
  have h1 : (rootsL m r)[j]? = some (rootsL m r)[j] := List.getElem?_eq_getElem hj
  obtain ⟨h2, h3⟩ := rootsL_mem (List.getElem_mem hj)
  obtain ⟨t, ht⟩ := clsL_head hl hm h2 h3
  refine ⟨_, t, ?_, h2, h3, rootsL_at h1, ht.symm⟩
  unfold clsM
  rw [List.getElem?_map, h1]
  show some (clsL m r _) = _
  rw [ht]
end Go.Proofs.Ytfdjnhnchibejaa

namespace Go.Proofs.Ytfdjnhnchibejaa
open Go.RowKit Go.WideElems Go.MapKept
open Go.ChangeMaps (setBlock heap_setBlock_same heap_setBlock_other)
open Go.WideMaps (KeyLaw)

def MapAt (w : World) (b : Nat) (l : List (Value × Value)) : Prop := ∃ es clock, w.heap[b]? = some (.map es clock) ∧ es.toList.map (fun e => (e.key, e.val)) = l
theorem MapAt.lt {w : World} {b : Nat} {l : List (Value × Value)} (h : MapAt w b l) : b < w.heap.size := by
  obtain ⟨es, clock, hb, _⟩ := h
  exact (Array.getElem?_eq_some_iff.1 hb).1
theorem map_new (w : World) (b : Nat) (hb : b = w.heap.size) : MapAt (w.alloc (.map #[] 0)) b [] := by
  subst hb
  exact ⟨#[], 0, (MapKept.heap_alloc w _).1, rfl⟩
theorem MapAt.of {w w' : World} {b : Nat} {l : List (Value × Value)} (h : MapAt w b l) (e : w'.heap[b]? = w.heap[b]?) : MapAt w' b l := by
  obtain ⟨es, clock, hb, hl⟩ := h
  exact ⟨es, clock, e.trans hb, hl⟩
theorem MapAt.grew {w w' : World} {b : Nat} {l : List (Value × Value)} (h : MapAt w b l) (g : Grew w w') : MapAt w' b l := by
  obtain ⟨x, rfl⟩ := g
  exact h.of (more_block w x b h.lt)
theorem MapAt.kept {w w' : World} {b : Nat} {l : List (Value × Value)} {row : Option Nat} (h : MapAt w b l) (g : w.grownBy w' row) (hr : some b ≠ row) : MapAt w' b l := h.of (g.block b h.lt hr)
theorem MapAt.turns {w w' : World} {b g : Nat} {l : List (Value × Value)} (h : MapAt w b l) (k : Turns w w' g) (hg : b ≠ g) : MapAt w' b l := h.of (k.block b h.lt hg)
section
variable {P : Program} {k e t : TypeId} {w : World} {b : Nat} {l : List (Value × Value)}
/-- 'v, ok := m[k]': the key's own entry, or the zero value. -/
theorem map_look (K : KeyLaw P k) (ht : P.underlying t = some (.map k e)) (h : MapAt w b l) (hk : ∀ p ∈ l, ∃ kl, keyOf P k p.1 = some kl) {key z : Value} {kl : Lit} (hkey : keyOf P k key = some kl) (hz : (zeroValue e).run P w = .ok z w) :
    ((∀ p ∈ l, p.1 ≠ key) ∧ (Instr.lookup t (.map (some b)) key true).run P w = .ok (.tuple #[z, .bool false]) w) ∨ ∃ v, (key, v) ∈ l ∧ (Instr.lookup t (.map (some b)) key true).run P w = .ok (.tuple #[v, .bool true]) w := by
  obtain ⟨es, clock, hb, rfl⟩ := h
  have hall : ∀ x ∈ es.toList, ∃ kl, keyOf P k x.key = some kl := fun x hx => hk (x.key, x.val) (List.mem_map.2 ⟨x, hx, rfl⟩)
  rcases K.find w hkey es.toList hall with ⟨h1, h2⟩ | ⟨j, e0, h1, h2, h3⟩
  · refine Or.inl ⟨fun p hp => ?_, by simp [Instr.lookup, run_underlying ht, MapKept.run_getObj_map hb, K.check w _ hkey, h1, hz, Result.andThen]⟩
    obtain ⟨x, hx, rfl⟩ := List.mem_map.1 hp
    exact h2 x hx
  · refine Or.inr ⟨e0.val, List.mem_map.2 ⟨e0, List.mem_of_getElem? h2, by rw [h3]⟩, by simp [Instr.lookup, run_underlying ht, MapKept.run_getObj_map hb, K.check w _ hkey, h1, Result.andThen]⟩
/-- 'len(m)'. -/
theorem map_len (ht : P.underlying t = some (.map k e)) (h : MapAt w b l) (ty : TypeId) : (Builtin.len_ #[t] ty #[.map (some b)]).run P w = .ok (.int .i64 l.length) w := by
  obtain ⟨es, clock, hb, rfl⟩ := h
  simp [Builtin.len_, run_underlying ht, MapKept.run_getObj_map hb, goInt, Result.andThen]
/-- 'm[k] = v' at a key that is not there. -/
theorem map_put (K : KeyLaw P k) (ht : P.underlying t = some (.map k e)) (h : MapAt w b l) (hk : ∀ p ∈ l, ∃ kl, keyOf P k p.1 = some kl) {key val : Value} {kl : Lit} (hkey : keyOf P k key = some kl) (hno : ∀ p ∈ l, p.1 ≠ key) :
    ∃ w', (Instr.mapUpdate t (.map (some b)) key val).run P w = .ok () w' ∧ MapAt w' b (l ++ [(key, val)]) ∧ w.grownBy w' (some b) := by
  obtain ⟨es, clock, hb, rfl⟩ := h
  have hall : ∀ x ∈ es.toList, ∃ kl, keyOf P k x.key = some kl := fun x hx => hk (x.key, x.val) (List.mem_map.2 ⟨x, hx, rfl⟩)
  rcases K.find w hkey es.toList hall with ⟨h1, h2⟩ | ⟨j, e0, h1, h2, h3⟩
  · refine ⟨setBlock w b (.map (es.push ⟨key, val, clock⟩) (clock + 1)), by simp [Instr.mapUpdate, run_underlying ht, MapKept.run_getObj_map hb, K.check w false hkey, h1, MapKept.run_setObj_map _ hb, Result.andThen, setBlock], ⟨_, _, heap_setBlock_same hb _, by simp⟩, ⟨rfl, rfl, rfl, by simp [setBlock], fun i _ hi => heap_setBlock_other hb _ (fun e => hi (by rw [e]))⟩⟩
  · exact absurd h3 (hno (e0.key, e0.val) (List.mem_map.2 ⟨e0, List.mem_of_getElem? h2, rfl⟩))
end
theorem wpList_mput {P : Program} {w : World} {ops : Array Oper} {rest : List Oper} {o : Oper} {a : Act} {Q : Exit → Act → World → Prop} (hg : o.guard = none) (m x v : Operand) (t k e : TypeId) (hop : o.op = Op.mapUpdate t m x v)
    (K : KeyLaw P k) (ht : P.underlying t = some (.map k e)) (b : Nat) (l : List (Value × Value)) (hm : a.eval m = .map (some b)) (h : MapAt w b l) (hk : ∀ p ∈ l, ∃ kl, keyOf P k p.1 = some kl) (key val : Value) (kl : Lit) (hx : a.eval x = key) (hv : a.eval v = val)
    (hkey : keyOf P k key = some kl) (hno : ∀ p ∈ l, p.1 ≠ key)
    (hK : ∀ w', MapAt w' b (l ++ [(key, val)]) → w.grownBy w' (some b) → wpList P ops Q rest (a.put o.dst undef) w') : wpList P ops Q (o :: rest) a w := by
  refine wpList_plain hg fun K' hK' => ?_
  obtain ⟨w', hrun, r1, r2⟩ := map_put K ht h hk (val := val) hkey hno
  unfold Oper.wp
  simp [execOp, hop, hm, hx, hv, hrun, Result.andThen]
  exact hK' _ _ (hK w' r1 r2)
end Go.Proofs.Ytfdjnhnchibejaa
