/- Layer 21: whether two lists of numbers are the same. No condition. -/
import Derived.Test.YtbglmcebkpkccaaGreatDoorApp2
import Derived.StillTailTactics
import Derived.OpenShut
import Derived.Deep.DrawnRows
import Derived.Deep.QuietTactic
import Derived.BigQuiet
namespace Go.Proofs.YtbglmcebkpkccaaGreatDoor
open Go.RowKit
attribute [local go_sem] more_cell more_frozen more_more more_setCell more_of_drew more_of_drewN lt_more le_more past_cell past_cell2 past_frozen past_frozen2 past_setCell past_setCell2 mid_cell mid_frozen mid_setCell
attribute [local go_sem ↓] Go.wp_at_zero Go.wp_at_succ

theorem irow_some {w : World} {A : Option Addr} {l : List Int} {j : Nat} (h : Row w A (iV l)) (hj : j < l.length) : ∃ b o, A = some ⟨b, o, none⟩ := by
  rcases h with h1 | ⟨b, o, hA, _⟩
  · unfold iV at h1
    rw [List.map_eq_nil_iff] at h1
    subst h1
    simp at hj
  · exact ⟨b, o, hA⟩
theorem irow_cell {w : World} {b o i : Nat} {x : Int} {l : List Int} (h : Row w (some ⟨b, o, none⟩) (iV l)) (hi : i < l.length) (hx : l[i] = x) : b < w.heap.size ∧ w.cell? ⟨b, o + i, none⟩ = some (.int .i64 x) := by
  subst hx
  rcases h with h | ⟨b', o', hA, hb, hc⟩
  · unfold iV at h
    rw [List.map_eq_nil_iff] at h
    subst h
    simp at hi
  · injection hA with hA
    injection hA with e1 e2 _
    subst e1 e2
    exact ⟨hb, hc i _ (by simp [iV, hi])⟩
def SameAt (w : World) (a b : List Int) (i : Value) (wr : World) : Prop := ∃ j : Nat, j ≤ a.length ∧ i = .int .i64 j ∧ a.take j = b.take j ∧ Grew w wr
theorem take_more {a b : List Int} {j : Nat} (ha : j < a.length) (hb : j < b.length) (h : a.take j = b.take j) (he : a[j] = b[j]) : a.take (j + 1) = b.take (j + 1) := by
  rw [List.take_succ_eq_append_getElem ha, List.take_succ_eq_append_getElem hb, h, he]
set_option maxRecDepth 100000 in
theorem samelist_any (a b : List Int) (A B : Option Addr) (c d : Nat) (w : World) (ha : Row w A (iV a)) (hb : Row w B (iV b)) (hl : a.length ≤ 1000000000000000) (hm : b.length ≤ 1000000000000000) :
    Gives Tryz.prog 24 #[.slice A a.length c, .slice B b.length d] w (.bool (decide (a = b))) := by
  unfold Gives
  obtain ⟨r, hr⟩ : ∃ r, decide (a = b) = r := ⟨_, rfl⟩
  have HR := Lib.hid hr
  rw [hr]
  clear hr
  have HA := Lib.hid ha
  have HB := Lib.hid hb
  clear ha hb
  by_cases hlen : a.length = b.length
  · have el : ((a.length : Int) != (b.length : Int)) = false := by simp; omega
    have HL := Lib.hid hlen
    clear hlen
    have HG0 : Hid (Grew w w) := Lib.hid (Grew.refl w)
    go_enter Tryz.func24, Tryz.ntmps24
    go_wp2
    go_loopw [5] (fun i wr => SameAt w a b i wr) (fun i _ => a.length - (intOf i).toNat)
    case atStart => exact ⟨0, Nat.zero_le _, rfl, by simp, HG0.out⟩
    case round =>
      obtain ⟨j, hj, rfl, ht, hg⟩ := hrel
      have HT := Lib.hid ht
      have HG := Lib.hid hg
      clear ht hg
      by_cases h : j < a.length
      · have hb2 : j < b.length := by have := HL.out; omega
        obtain ⟨p, o, rfl⟩ := irow_some HA.out h
        obtain ⟨q, o2, rfl⟩ := irow_some HB.out hb2
        obtain ⟨p1, c1⟩ := irow_cell (HA.out.grew HG.out) h rfl
        obtain ⟨p2, c2⟩ := irow_cell (HB.out.grew HG.out) hb2 rfl
        by_cases he : a[j] = b[j]
        · have HT2 := Lib.hid (take_more h hb2 HT.out he)
          rw [← he] at c2
          have en : (a[j] != a[j]) = false := by simp
          clear he
          generalize a[j] = x at *
          go_wp2
          go_quiet (fail)
          go_wp2
          exact ⟨⟨j + 1, by omega, by go_num, HT2.out, HG.out.drewN _⟩, by simp only [intOf]; omega⟩
        · have HR2 : Hid (r = false) := Lib.hid (by
            rw [← HR.out]
            apply decide_eq_false
            intro hab
            subst hab
            exact he rfl)
          have en : (a[j] != b[j]) = true := by simp [he]
          clear he
          generalize a[j] = x at *
          generalize b[j] = y at *
          go_wp2
          go_quiet (fail)
          go_wp2
          go_ret
          rw [HR2.out]
          exact ⟨rfl, HG.out.drewN _⟩
      · obtain rfl : j = a.length := by omega
        have HR2 : Hid (r = true) := Lib.hid (by
          rw [← HR.out]
          apply decide_eq_true
          have h2 := HT.out
          rw [List.take_length, HL.out, List.take_length] at h2
          exact h2)
        go_wp2
        go_ret
        rw [HR2.out]
        exact ⟨rfl, HG.out⟩
  · have el : ((a.length : Int) != (b.length : Int)) = true := by simp; omega
    have HR2 : Hid (r = false) := Lib.hid (by
      rw [← HR.out]
      apply decide_eq_false
      intro hab
      exact hlen (by rw [hab]))
    clear hlen
    go_enter Tryz.func24, Tryz.ntmps24
    go_wp2
    go_ret
    rw [HR2.out]
    exact ⟨rfl, _, (more_self w).symm⟩
end Go.Proofs.YtbglmcebkpkccaaGreatDoor
