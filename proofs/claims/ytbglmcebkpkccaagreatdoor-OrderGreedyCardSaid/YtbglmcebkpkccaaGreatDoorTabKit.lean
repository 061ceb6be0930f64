/- Small words on rows and tables in memory. No condition. -/
import Derived.Test.YtbglmcebkpkccaaGreatDoorTab
import Derived.Test.YtbglmcebkpkccaaGreatDoorHead
import Derived.Deep.DrawnRows
import Derived.Deep.RegionHeld3
import Derived.Lib.Bytealg
import Derived.IntWalk
namespace Go.Proofs.YtbglmcebkpkccaaGreatDoor
open Go.RowKit

theorem lt_some {α : Type} {l : List α} {i : Nat} {x : α} (h : l[i]? = some x) : i < l.length := by
  rcases Nat.lt_or_ge i l.length with hlt | hge
  · exact hlt
  · rw [List.getElem?_eq_none hge] at h; cases h
theorem Row.front {w : World} {A : Option Addr} {xs ys : List Value} (h : Row w A (xs ++ ys)) : Row w A xs := by
  rcases h with h | ⟨b, o, hA, hb, hc⟩
  · exact Or.inl (List.append_eq_nil_iff.1 h).1
  · exact Or.inr ⟨b, o, hA, hb, fun j u hu => hc j u (by rw [List.getElem?_append_left (lt_some hu)]; exact hu)⟩
theorem Row.take_flat {w : World} {A : Option Addr} {css : List (List Value)} (h : Row w A css.flatten) (i : Nat) : Row w A (css.take i).flatten := by
  rw [← List.take_append_drop i css, List.flatten_append] at h
  exact h.front
theorem ListR.take {α : Type} {R : α → List Value → Prop} {size : Nat} {l : List α} {css : List (List Value)} (h : ListR R size l css) (i : Nat) : ListR R size (l.take i) (css.take i) := by
  refine ⟨by simp [h.1], fun j x cs h1 h2 => ?_⟩
  have hj : j < i := by have := lt_some h1; simp at this; omega
  rw [List.getElem?_take_of_lt hj] at h1 h2
  exact h.2 j x cs h1 h2
theorem Grew.cell {w w' : World} (h : Grew w w') {a : Addr} (ha : a.block < w.heap.size) : w'.cell? a = w.cell? a := by
  obtain ⟨x, rfl⟩ := h
  exact more_cell w x a ha
def tbV (x : Tb) (A : Option Addr) (k : Nat) (B : Option Addr) (j : Nat) : Value := .agg #[.string x.name, .slice A x.cols.length k, .slice B x.rows.length j]
def clV (x : Cl) : Value := .agg #[.string x.name, .int .i64 x.kind]
theorem txt_ext {a b : ByteArray} (h : a.toList = b.toList) : a = b := by
  rw [ByteArray.toList_eq, ByteArray.toList_eq] at h
  obtain ⟨⟨a⟩⟩ := a
  obtain ⟨⟨b⟩⟩ := b
  simp only at h
  rw [h]
theorem bytes_toList {a b : ByteArray} : (a.toList == b.toList) = true ↔ a = b := by
  rw [beq_iff_eq]
  exact ⟨txt_ext, fun h => by rw [h]⟩
end Go.Proofs.YtbglmcebkpkccaaGreatDoor
