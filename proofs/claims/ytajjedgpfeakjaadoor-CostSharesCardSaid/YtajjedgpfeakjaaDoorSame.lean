/- Layer 21: whether two lists of numbers are the same. No condition. -/
import Derived.Test.YtajjedgpfeakjaaDoorApp2
import Derived.StillTailTactics
import Derived.OpenShut
import Derived.Deep.DrawnRows
import Derived.Deep.QuietTactic
import Derived.BigQuiet
namespace Go.Proofs.YtajjedgpfeakjaaDoor
open Go.RowKit
attribute [local go_sem] more_cell more_frozen more_more more_setCell more_of_drew more_of_drewN lt_more le_more past_cell past_cell2 past_frozen past_frozen2 past_setCell past_setCell2 mid_cell mid_frozen mid_setCell
attribute [local go_sem ↓] Go.wp_at_zero Go.wp_at_succ

theorem irow_some {w : World} {A : Option Addr} {l : List Int} {j : Nat} (h : Row w A (iV l)) (hj : j < l.length) : ∃ b o, A = some ⟨b, o, none⟩ := by
  rcases h with h1 | ⟨b, o, hA, _⟩
  · unfold iV at h1
    rw [List.map_eq_nil_iff] at h1
    subst h1
    simp at hj
  · exact ⟨b, o, hA⟩
theorem irow_cell {w : World} {b o i : Nat} {x : Int} {l : List Int} (h : Row w (some ⟨b, o, none⟩) (iV l)) (hi : i < l.length) (hx : l[i] = x) : b < w.heap.size ∧ w.cell? ⟨b, o + i, none⟩ = some (.int .i64 x) := by
  subst hx
  rcases h with h | ⟨b', o', hA, hb, hc⟩
  · unfold iV at h
    rw [List.map_eq_nil_iff] at h
    subst h
    simp at hi
  · injection hA with hA
    injection hA with e1 e2 _
    subst e1 e2
    exact ⟨hb, hc i _ (by simp [iV, hi])⟩
def SameAt (w : World) (a b : List Int) (i : Value) (wr : World) : Prop := ∃ j : Nat, j ≤ a.length ∧ i = .int .i64 j ∧ a.take j = b.take j ∧ Grew w wr
theorem take_more {a b : List Int} {j : Nat} (ha : j < a.length) (hb : j < b.length) (h : a.take j = b.take j) (he : a[j] = b[j]) : a.take (j + 1) = b.take (j + 1) := by
  rw [List.take_succ_eq_append_getElem ha, List.take_succ_eq_append_getElem hb, h, he]
end Go.Proofs.YtajjedgpfeakjaaDoor
