/- Layer 8: expressions that are the same. Condition: expressions that lie in memory that is there. -/
import Derived.Test.YtoaciliojdaoaaaEx
import Derived.Test.YtoaciliojdaoaaaHeld
import Derived.Test.YtoaciliojdaoaaaHead
import Derived.StillTailTactics
import Derived.Deep.DrawnRows
import Derived.Deep.DeepCutAuto
import Derived.Outline
import Derived.IntWalk
import Derived.Lib.Bytealg
namespace Go.Proofs.Ytoaciliojdaoaaa
open Go.RowKit
attribute [local go_sem] more_cell more_frozen more_more more_setCell more_of_drew more_of_drewN lt_more le_more past_cell past_cell2 past_frozen past_frozen2 past_setCell past_setCell2 mid_cell mid_frozen mid_setCell
attribute [local go_sem ↓] Go.wp_at_zero Go.wp_at_succ

theorem not_true {p : Prop} {t : Bool} (h : t = true ↔ p) (hn : ¬ p) : t = false := by
  cases t
  · rfl
  · exact absurd (h.1 rfl) hn
theorem is_true {p : Prop} {t : Bool} (h : t = true ↔ p) (hn : p) : t = true := h.2 hn
theorem some_bool (p : Prop) : ∃ t : Bool, (t = true ↔ p) := by
  by_cases h : p
  · exact ⟨true, by simp [h]⟩
  · exact ⟨false, by simp [h]⟩
theorem take_same {α : Type} {l m : List α} {j : Nat} (h : l.take j = m.take j) (h1 : j < l.length) (h2 : j < m.length) (he : l[j] = m[j]) : l.take (j + 1) = m.take (j + 1) := by
  rw [List.take_succ_eq_append_getElem h1, List.take_succ_eq_append_getElem h2, h, he]
theorem bytes_ext {a b : ByteArray} (h : a.toList = b.toList) : a = b := by
  apply ByteArray.ext
  apply Array.ext'
  rw [ByteArray.toList_eq] at h
  rw [ByteArray.toList_eq] at h
  exact h
def RSameAt (w : World) (cs cs' : Array Value) (l m : List Ex) (i : Value) (wr : World) : Prop :=
  ∃ j : Nat, j ≤ l.length ∧ i = .int .i64 j ∧ Grew w wr ∧ Blok wr w.heap.size 27 cs ∧ Blok wr (w.heap.size + 1) 27 cs' ∧ l.take j = m.take j
/-- Are all but the parts the same? -/
def headE (a b : Ex) : Prop := a.op = b.op ∧ a.tab = b.tab ∧ a.name = b.name ∧ a.t = b.t ∧ a.c = b.c ∧ a.vk = b.vk ∧ a.vi = b.vi ∧ a.vs = b.vs
theorem same_head {a b : Ex} (h : headE a b) : a = b ↔ a.l = b.l := ⟨fun e => by rw [e], fun e => Ex.ext' h.1 h.2.1 h.2.2.1 h.2.2.2.1 h.2.2.2.2.1 h.2.2.2.2.2.1 h.2.2.2.2.2.2.1 h.2.2.2.2.2.2.2 e⟩
theorem head_same {a b : Ex} (h : a = b) : headE a b := by subst h; exact ⟨rfl, rfl, rfl, rfl, rfl, rfl, rfl, rfl⟩
end Go.Proofs.Ytoaciliojdaoaaa
