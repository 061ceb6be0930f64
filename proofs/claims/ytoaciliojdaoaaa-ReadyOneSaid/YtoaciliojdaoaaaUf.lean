/- Layer 6: numbers in classes that lie in memory: what Find tells, and what it leaves. No condition but that the classes lie in memory as they are made. -/
import Derived.Test.YtoaciliojdaoaaaRows
import Derived.Test.YtoaciliojdaoaaaHeap
import Derived.StillTailTactics
import Derived.Lib.Hide
import Derived.IntWalk
import Derived.OpenShut
import Derived.Deep.RegionHeld3
import Derived.Deep.DrawnRows
namespace Go.Proofs.Ytoaciliojdaoaaa
open Go.RowKit
attribute [local go_sem] more_cell more_frozen more_more more_setCell more_of_drew more_of_drewN lt_more le_more past_cell past_cell2 past_frozen past_frozen2 past_setCell past_setCell2 mid_cell mid_frozen mid_setCell
attribute [local go_sem ↓] Go.wp_at_zero Go.wp_at_succ

/-- Classes at block g: their row of n numbers at block h, what it holds, and how many classes. -/
structure UfAt (w : World) (g h n : Nat) (f : Nat → Nat) (c : Int) : Prop where
  top : Blok w g 134 #[.slice (some ⟨h, 0, none⟩) n n, .int .i64 c]
  row : Blok w h 3 (numsV n f)
  ne : g ≠ h
  small : n ≤ 65536
/-- f leads each number to its class's least one, r. -/
structure Leads (n : Nat) (f r : Nat → Nat) : Prop where
  le : ∀ i, i < n → f i ≤ i
  same : ∀ i, i < n → r (f i) = r i
  root : ∀ i, i < n → f i = i → r i = i
theorem Leads.shorten {n b y : Nat} {f r : Nat → Nat} (h : Leads n f r) (_hb : b < n) (hy : y < b) (hr : r y = r b) : Leads n (fun i => if i = b then y else f i) r := by
  refine ⟨fun i hi => ?_, fun i hi => ?_, fun i hi => ?_⟩
  all_goals
    by_cases e : i = b
    · subst e
      simp only [if_true]
      omega
    · simp only [if_neg e]
      first | exact h.le i hi | exact h.same i hi | exact h.root i hi
theorem UfAt.drew {w : World} {g h n : Nat} {f : Nat → Nat} {c : Int} (u : UfAt w g h n f c) : UfAt w.drew g h n f c := ⟨u.top, u.row, u.ne, u.small⟩
theorem UfAt.drewN {w : World} {g h n : Nat} {f : Nat → Nat} {c : Int} (u : UfAt w g h n f c) (k : Nat) : UfAt (w.drewN k) g h n f c := ⟨u.top, u.row, u.ne, u.small⟩
theorem UfAt.more {w : World} {g h n : Nat} {f : Nat → Nat} {c : Int} (u : UfAt w g h n f c) (x : Xs) : UfAt (more w x) g h n f c := ⟨u.top.more x, u.row.more x, u.ne, u.small⟩
theorem UfAt.set {w : World} {g h n : Nat} {f : Nat → Nat} {c : Int} (u : UfAt w g h n f c) (a v : Nat) : UfAt (w.setCell ⟨h, a, none⟩ (.int .i64 v)) g h n (fun i => if i = a then v else f i) c :=
  ⟨u.top.far (p := ⟨h, a, none⟩) u.ne _, by rw [← numsV_set]; exact u.row.set a _, u.ne, u.small⟩
/-- What Find leaves: the answer, classes that tell the same, and nothing else turned. -/
def Found (w : World) (g h n : Nat) (r : Nat → Nat) (c : Int) (x : Int) (e : Ending) (w' : World) : Prop :=
  e = .returned (.int .i64 x) ∧ Turns w w' h ∧ ∃ f, UfAt w' g h n f c ∧ Leads n f r
theorem Turns.drew {w w' : World} {g : Nat} (h : Turns w w' g) : Turns w w'.drew g := ⟨h.os, h.tape, h.output, h.size, h.block⟩
theorem Turns.drewN {w w' : World} {g : Nat} (h : Turns w w' g) (k : Nat) : Turns w (w'.drewN k) g := ⟨h.os, h.tape, h.output, h.size, h.block⟩
theorem find_none (a : Int) (w : World) (g h n : Nat) (f r : Nat → Nat) (c : Int) (u : UfAt w g h n f c) (hl : Leads n f r) (ha : a < 0 ∨ (n : Int) ≤ a) :
    Calls Try.prog 77 #[.pointer (some ⟨g, 0, none⟩), .int .i64 a] w (Found w g h n r c (-1)) := by
  have c0 := u.top.cell 0
  have HU := Lib.hid u
  have HL := Lib.hid hl
  simp at c0
  clear u hl
  rcases (by omega : a < 0 ∨ (¬ a < 0 ∧ (n : Int) ≤ a)) with h1 | ⟨h1, h2⟩
  all_goals
    clear ha
    go_enter Try.func77, Try.ntmps77
    go_wp2
    go_ret
    exact ⟨rfl, Turns.refl _ _, f, HU.out, HL.out⟩
def FindAt (w : World) (g h n : Nat) (r : Nat → Nat) (c : Int) (x : Nat) (i : Value) (wr : World) : Prop :=
  ∃ (a : Nat) (f : Nat → Nat), a < n ∧ i = .int .i64 a ∧ r a = x ∧ Turns w wr h ∧ UfAt wr g h n f c ∧ Leads n f r
theorem find_any (a : Nat) (w : World) (g h n : Nat) (f r : Nat → Nat) (c : Int) (u : UfAt w g h n f c) (hl : Leads n f r) (ha : a < n) :
    Calls Try.prog 77 #[.pointer (some ⟨g, 0, none⟩), .int .i64 a] w (Found w g h n r c (r a)) := by
  have c0 := u.top.cell 0
  have HU := Lib.hid u
  have HL := Lib.hid hl
  simp at c0
  clear u hl
  go_enter Try.func77, Try.ntmps77
  go_wp2
  go_loopw [1] (fun i wr => FindAt w g h n r c (r a) i wr) (fun i _ => (intOf i).toNat)
  case atStart => exact ⟨a, f, ha, rfl, rfl, Turns.refl _ _, HU.out, HL.out⟩
  case round =>
    obtain ⟨b, f', hb, rfl, hr, ht, hu, hl⟩ := hrel
    have c0 := hu.top.cell 0
    have c1 := hu.row.cell b
    have c2 := hu.row.cell (f' b)
    have hfb := hl.le b hb
    have hffb := hl.le (f' b) (by omega)
    rw [numsV_at n f' b hb] at c1
    rw [numsV_at n f' (f' b) (by omega)] at c2
    have z1 := hu.row.thaw b
    have hgl := hu.top.lt
    have hhl := hu.row.lt
    have HT := Lib.hid ht
    have HV := Lib.hid hu
    have HL2 := Lib.hid hl
    have HX := Lib.hid hr
    simp at c0
    clear hr ht hu hl
    by_cases hroot : f' b = b
    · have hz : r b = b := HL2.out.root b hb hroot
      have HZ : Hid (r a = b) := Lib.hid (by rw [← HX.out, hz])
      clear hz c2
      rw [hroot] at c1 hfb hffb
      clear hroot
      go_wp2
      go_ret
      exact ⟨by rw [HZ.out]; rfl, HT.out, f', HV.out, HL2.out⟩
    · have t1 : ((f' b != b) : Bool) = true := by rw [bne_iff_ne]; exact hroot
      have t2 : (((f' b : Nat) : Int) != (b : Int)) = true := by rw [bne_iff_ne]; omega
      have hm : f' (f' b) < b := by omega
      generalize hw : f' b = x at *
      have HW := Lib.hid hw
      clear hw hroot t1
      generalize hx : f' x = y at *
      have HY := Lib.hid hx
      clear hx
      have hry : r y = r b := by
        have h1 := HL2.out.same x (by omega)
        have h2 := HL2.out.same b hb
        rw [HY.out] at h1
        rw [HW.out] at h2
        omega
      have HRY : Hid (r y = r a) := Lib.hid (by have := HX.out; omega)
      have HLN : Hid (Leads n (fun i => if i = b then y else f' i) r) := Lib.hid (Leads.shorten HL2.out hb hm hry)
      clear hry
      go_wp2
      refine wp_region_more_tail 19 (by kernel_rfl) (by kernel_rfl) ?_
      simp only [List.take_succ_cons, List.take_zero, List.drop_succ_cons, List.drop_zero]
      repeat (go_big_quiet_step ((fail)))
      refine wpQuiet_nil ?_
      rintro _ ⟨z, rfl⟩
      go_wp2
      exact ⟨⟨y, fun i => if i = b then y else f' i, by omega, rfl, HRY.out, by first | exact (HT.out.more _).set _ _ | exact (HT.out.set _ _).more _, by first | exact (HV.out.more _).set _ _ | exact (HV.out.set _ _).more _, HLN.out⟩, by simp only [intOf]; omega⟩
end Go.Proofs.Ytoaciliojdaoaaa
