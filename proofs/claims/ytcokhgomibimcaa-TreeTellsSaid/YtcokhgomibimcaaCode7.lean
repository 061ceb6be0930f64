/- Layer 39: how many numbers, and numbers, are read. -/
import Derived.Test.YtcokhgomibimcaaCode6
namespace Go.Proofs.Ytcokhgomibimcaa
open Go.RowKit
attribute [local go_sem] more_cell more_frozen more_more more_setCell more_of_drew more_of_drewN lt_more le_more past_cell past_cell2 past_frozen past_frozen2 past_setCell past_setCell2 mid_cell mid_frozen mid_setCell
attribute [local go_sem ↓] Go.wp_at_zero Go.wp_at_succ

def NumT (u w : World) (g : Nat) (v : Int) (s : List Nat × Bool) (e : Ending) (w' : World) : Prop := e = .returned (.int .i64 v) ∧ LeftIs u w' g s.1 s.2 ∧ Turns w w' g
theorem number_to (u : World) (g : Nat) (s : List Nat × Bool) (hl : s.1.length ≤ 1000000) (hx : bytesOk s.1) (w : World) (hg : LeftIs u w g s.1 s.2) :
    Calls Try.prog 99 #[.pointer (some ⟨g, 0, none⟩)] w (NumT u w g (numS s).1 (numS s).2) := by
  refine (number_any u g s.1 s.2 hl hx w hg).mono ?_
  rintro e w' ⟨ht, h⟩
  rcases h with ⟨h1, he, h2⟩ | ⟨z, n, h1, he, h2⟩
  · rw [numS_none h1]
    exact ⟨he, h2, ht⟩
  · rw [numS_some h1]
    exact ⟨he, h2, ht⟩
theorem LeftIs.blok {u w : World} {g : Nat} {l : List Nat} {f : Bool} (h : LeftIs u w g l f) : ∃ A, Blok w g 127 #[.slice A l.length l.length, .bool f] := by
  obtain ⟨A, m, rfl, h1, _⟩ := h
  exact ⟨A, h1⟩
theorem LeftIs.fails {u w w' : World} {g : Nat} {l : List Nat} {f : Bool} (h : LeftIs u w g l f) (hb : Blok w' g 127 #[.slice none 0 0, .bool true]) (ht : Turns w w' g) : LeftIs u w' g [] true := by
  obtain ⟨A, m, _, _, _, h4, h5⟩ := h
  exact ⟨none, 0, rfl, hb, Or.inl rfl, h4, ht.below h5 h4⟩
set_option maxRecDepth 100000 in
theorem count_to (u : World) (g : Nat) (s : List Nat × Bool) (hl : s.1.length ≤ 1000000) (hx : bytesOk s.1) (w : World) (hg : LeftIs u w g s.1 s.2) :
    Calls Try.prog 105 #[.pointer (some ⟨g, 0, none⟩)] w (NumT u w g (cntS s).1 (cntS s).2) := by
  have HG := Lib.hid hg
  clear hg
  have HP : Hid (Calls Try.prog 99 #[.pointer (some ⟨g, 0, none⟩)] w (NumT u w g (numS s).1 (numS s).2)) := Lib.hid (number_to u g s hl hx w HG.out)
  have hlen := (numS_left s).1
  have hbd := numS_bd hx
  have HC : Hid (cntS s = if (numS s).1 < 0 ∨ (numS s).2.1.length < (numS s).1 then (0, [], true) else ((numS s).1.toNat, (numS s).2)) := Lib.hid rfl
  generalize cntS s = r at *
  generalize numS s = t at *
  obtain ⟨v, l1, f1⟩ := t
  simp only at hlen hbd
  obtain ⟨bd1, bd2⟩ := hbd
  by_cases hneg : v < 0
  · have HR : Hid (r = (0, [], true)) := Lib.hid (by rw [HC.out, if_pos (Or.inl hneg)])
    go_enter Try.func105, Try.ntmps105
    go_wp2_with fail
    refine HP.out.mono ?_
    rintro e w1 ⟨rfl, h1, t1⟩
    obtain ⟨A, hb⟩ := h1.blok
    have HB := Lib.hid hb
    have HL := Lib.hid h1
    have HT := Lib.hid t1
    clear hb h1 t1
    go_wp2_with (go_at_call 103; refine (fail_any g _ _ _ HB.out).mono ?_; rintro e w2 ⟨rfl, hb2, ht2⟩; have HB2 := Lib.hid hb2; have HT2 := Lib.hid ht2; clear hb2 ht2)
    go_ret
    rw [HR.out]
    exact ⟨rfl, HL.out.fails HB2.out HT2.out, HT.out.trans HT2.out⟩
  · by_cases hbig : l1.length < v
    · have HR : Hid (r = (0, [], true)) := Lib.hid (by rw [HC.out, if_pos (Or.inr hbig)])
      go_enter Try.func105, Try.ntmps105
      go_wp2_with fail
      refine HP.out.mono ?_
      rintro e w1 ⟨rfl, h1, t1⟩
      obtain ⟨A, hb⟩ := h1.blok
      have HB := Lib.hid hb
      have c0 := hb.cell 0
      simp at c0
      have HL := Lib.hid h1
      have HT := Lib.hid t1
      clear hb h1 t1
      go_wp2_with (go_at_call 103; refine (fail_any g _ _ _ HB.out).mono ?_; rintro e w2 ⟨rfl, hb2, ht2⟩; have HB2 := Lib.hid hb2; have HT2 := Lib.hid ht2; clear hb2 ht2)
      go_ret
      rw [HR.out]
      exact ⟨rfl, HL.out.fails HB2.out HT2.out, HT.out.trans HT2.out⟩
    · have HR : Hid (r = (v.toNat, l1, f1)) := Lib.hid (by rw [HC.out, if_neg (by simp only; omega)])
      go_enter Try.func105, Try.ntmps105
      go_wp2_with fail
      refine HP.out.mono ?_
      rintro e w1 ⟨rfl, h1, t1⟩
      obtain ⟨A, hb⟩ := h1.blok
      have c0 := hb.cell 0
      simp at c0
      have HL := Lib.hid h1
      have HT := Lib.hid t1
      clear hb h1 t1
      go_wp2
      go_ret
      rw [HR.out]
      have e : ((v.toNat : Nat) : Int) = v := Int.toNat_of_nonneg (by omega)
      refine ⟨?_, HL.out, HT.out⟩
      show _ = Ending.returned (.int .i64 ((v.toNat : Nat) : Int))
      rw [e]
      rfl
end Go.Proofs.Ytcokhgomibimcaa
