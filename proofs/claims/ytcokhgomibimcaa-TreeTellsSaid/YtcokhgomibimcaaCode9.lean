/- Layer 39: the number, the numbers at a place. -/
import Derived.Test.YtcokhgomibimcaaCode8
import Derived.Deep.QuietTactic
import Derived.BigQuiet
namespace Go.Proofs.Ytcokhgomibimcaa
open Go.RowKit
attribute [local go_sem] more_cell more_frozen more_more more_setCell more_of_drew more_of_drewN lt_more le_more past_cell past_cell2 past_frozen past_frozen2 past_setCell past_setCell2 mid_cell mid_frozen mid_setCell
attribute [local go_sem ↓] Go.wp_at_zero Go.wp_at_succ

def GetIT (w : World) (r : Int × Int × Bool) (e : Ending) (w' : World) : Prop := e = .returned (.tuple #[.int .i64 r.1, .int .i64 r.2.1, .bool r.2.2]) ∧ Grew w w'
theorem LeftIs.grew {u w : World} {g : Nat} {l : List Nat} {f : Bool} (h : LeftIs u w g l f) : Grew u w := by
  obtain ⟨A, m, h1, h2, h3, h4, h5⟩ := h
  exact h5
set_option maxRecDepth 100000 in
theorem getint_any (l : List Nat) (A : Option Addr) (c : Nat) (n : Int) (hc : l.length ≤ c) (hl : l.length ≤ 1000000) (hx : bytesOk l) (w : World) (hr : Row w A (bV l)) :
    Calls Try.prog 20 #[.slice A l.length c, .int .i64 n] w (GetIT w (getI l n)) := by
  have HR := Lib.hid hr
  clear hr
  have hle := (leftS_left l n).1
  have HX := Lib.hid (leftS_ok hx n)
  have hln := (numS_left (leftS l n)).1
  have HI : Hid (getI l n = if (numS (leftS l n)).2.2 = true then (0, 0, false) else ((numS (leftS l n)).1, l.length - ((numS (leftS l n)).2.1.length : Int), true)) := Lib.hid rfl
  generalize getI l n = r at *
  go_enter Try.func20, Try.ntmps20
  go_wp2_with fail
  refine (from_any l A c n hc hl _ HR.out).mono ?_
  rintro e w1 ⟨g, rfl, h1⟩
  have HP : Hid (Calls Try.prog 99 #[.pointer (some ⟨g, 0, none⟩)] w1 (NumT w w1 g (numS (leftS l n)).1 (numS (leftS l n)).2)) := Lib.hid (number_to w g _ (by omega) HX.out w1 h1)
  clear h1 HX
  generalize numS (leftS l n) = t at *
  obtain ⟨v, l1, f⟩ := t
  simp only at hln
  have hl1 : l1.length ≤ l.length := by omega
  clear hln hle
  go_wp2_with fail
  refine HP.out.mono ?_
  rintro e w2 ⟨rfl, h2, t2⟩
  obtain ⟨B, hb⟩ := h2.blok
  have c0 := hb.cell 0
  have c1 := hb.cell 1
  simp at c0 c1
  have HG := Lib.hid h2.grew
  clear hb h2 t2
  cases f
  · have HR : Hid (r = (v, l.length - (l1.length : Int), true)) := Lib.hid (by rw [HI.out]; rfl)
    go_wp2
    go_quiet (fail)
    go_wp2
    go_ret3
    rw [HR.out]
    exact ⟨rfl, HG.out.drewN _⟩
  · have HR : Hid (r = (0, 0, false)) := Lib.hid (by rw [HI.out]; rfl)
    go_wp2
    go_ret3
    rw [HR.out]
    exact ⟨rfl, HG.out⟩
def GetIsT (w : World) (r : List Int × Int × Bool) (e : Ending) (w' : World) : Prop := ∃ A c, e = .returned (.tuple #[.slice A r.1.length c, .int .i64 r.2.1, .bool r.2.2]) ∧ w'.ownsRow w.heap.size 3 1 (.slice A r.1.length c) r.1.length (iV r.1) ∧ Grew w w'
theorem intsS_left (s : List Nat × Bool) : (intsS s).2.1.length ≤ s.1.length ∧ (intsS s).1.length ≤ s.1.length := by
  unfold intsS
  have h1 := cntS_left s
  have h2 := numsS_left (cntS s).1 (cntS s).2
  rw [numsS_len]
  omega
set_option maxRecDepth 100000 in
theorem getints_any (l : List Nat) (A : Option Addr) (c : Nat) (n : Int) (hc : l.length ≤ c) (hl : l.length ≤ 1000000) (hx : bytesOk l) (w : World) (hr : Row w A (bV l)) :
    Calls Try.prog 21 #[.slice A l.length c, .int .i64 n] w (GetIsT w (getIs l n)) := by
  have HR := Lib.hid hr
  clear hr
  have hle := (leftS_left l n).1
  have HX := Lib.hid (leftS_ok hx n)
  have hln := (intsS_left (leftS l n)).1
  have HI : Hid (getIs l n = if (intsS (leftS l n)).2.2 = true then ([], 0, false) else ((intsS (leftS l n)).1, l.length - ((intsS (leftS l n)).2.1.length : Int), true)) := Lib.hid rfl
  generalize getIs l n = r at *
  go_enter Try.func21, Try.ntmps21
  go_wp2_with fail
  refine (from_any l A c n hc hl _ HR.out).mono ?_
  rintro e w1 ⟨g, rfl, h1⟩
  have HP : Hid (Calls Try.prog 100 #[.pointer (some ⟨g, 0, none⟩)] w1 (IntsT w w1 g (intsS (leftS l n)).1 (intsS (leftS l n)).2)) := Lib.hid (ints_to w g _ (by omega) HX.out w1 h1)
  have HG1 := Lib.hid h1.grew
  clear h1 HX
  generalize intsS (leftS l n) = t at *
  obtain ⟨v, l1, f⟩ := t
  simp only at hln
  have hl1 : l1.length ≤ l.length := by omega
  clear hln hle
  go_wp2_with fail
  refine HP.out.mono ?_
  rintro e w2 ⟨A2, c2, rfl, ho, h2, t2⟩
  obtain ⟨B, hb⟩ := h2.blok
  have c0 := hb.cell 0
  have c1 := hb.cell 1
  simp at c0 c1
  have HG := Lib.hid h2.grew
  have HO := Lib.hid (own_le ho HG1.out.size)
  clear hb h2 t2 ho
  cases f
  · have HR : Hid (r = (v, l.length - (l1.length : Int), true)) := Lib.hid (by rw [HI.out]; rfl)
    go_wp2
    go_quiet (fail)
    go_wp2
    go_ret3
    rw [HR.out]
    exact ⟨A2, c2, rfl, own_grew HO.out ((Grew.refl _).drewN _), HG.out.drewN _⟩
  · have HR : Hid (r = ([], 0, false)) := Lib.hid (by rw [HI.out]; rfl)
    go_wp2
    go_ret3
    rw [HR.out]
    exact ⟨none, 0, rfl, own_none _ _ _ _, HG.out⟩
end Go.Proofs.Ytcokhgomibimcaa
