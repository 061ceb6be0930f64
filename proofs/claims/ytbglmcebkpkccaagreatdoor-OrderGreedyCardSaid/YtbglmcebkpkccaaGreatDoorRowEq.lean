/- Layer 4: the document's Same and SameList of rows. Condition: rows that lie in memory that is there. -/
import Derived.Test.YtbglmcebkpkccaaGreatDoorRowMuch
import Derived.Test.YtbglmcebkpkccaaGreatDoorVal
import Derived.Deep.DeepCutAuto
namespace Go.Proofs.YtbglmcebkpkccaaGreatDoor
open Go.RowKit
attribute [local go_sem] more_cell more_frozen more_more more_setCell more_of_drew more_of_drewN lt_more le_more past_cell past_cell2 past_frozen past_frozen2 past_setCell past_setCell2 mid_cell mid_frozen mid_setCell
attribute [local go_sem ↓] Go.wp_at_zero Go.wp_at_succ

theorem sameV_iff (x y : Vl) : sameV x.k x.i x.s y.k y.i y.s = true ↔ x = y := by
  unfold sameV
  obtain ⟨k, i, s⟩ := x
  obtain ⟨k', i', s'⟩ := y
  simp only [Bool.and_eq_true, beq_iff_eq, Vl.mk.injEq]
  exact ⟨fun ⟨h1, h2, h3⟩ => ⟨h1, h2, txt_ext h3⟩, fun ⟨h1, h2, h3⟩ => ⟨h1, h2, by rw [h3]⟩⟩
theorem not_of {p : Prop} {t : Bool} (h : t = true ↔ p) (hn : ¬ p) : t = false := by
  cases t
  · rfl
  · exact absurd (h.1 rfl) hn
theorem some_of (p : Prop) : ∃ t : Bool, (t = true ↔ p) := by
  by_cases h : p
  · exact ⟨true, by simp [h]⟩
  · exact ⟨false, by simp [h]⟩
theorem take_eq {α : Type} {l m : List α} {j : Nat} (h : l.take j = m.take j) (h1 : j < l.length) (h2 : j < m.length) (he : l[j] = m[j]) : l.take (j + 1) = m.take (j + 1) := by
  rw [List.take_succ_eq_append_getElem h1, List.take_succ_eq_append_getElem h2, h, he]
def EqR4 {α : Type} (w : World) (l m : List α) (i : Value) (wr : World) : Prop := ∃ j : Nat, j ≤ l.length ∧ i = .int .i64 j ∧ Grew w wr ∧ l.take j = m.take j
end Go.Proofs.YtbglmcebkpkccaaGreatDoor
