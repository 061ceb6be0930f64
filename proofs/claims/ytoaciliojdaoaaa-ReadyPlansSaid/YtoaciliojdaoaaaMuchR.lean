/- A truth that is told, and what holds if it is false. No condition. -/
import Derived.Test.YtoaciliojdaoaaaKit3
namespace Go.Proofs.Ytoaciliojdaoaaa
open Go.RowKit

/-- A truth is told; if it is false, something holds. -/
def MuchR (w : World) (P : Prop) (e : Ending) (w' : World) : Prop := ∃ t : Bool, e = .returned (.bool t) ∧ Grew w w' ∧ (t = false → P)
theorem muchR_true {w w' : World} (P : Prop) (h : Grew w w') : MuchR w P (.returned (.bool true)) w' := ⟨true, rfl, h, fun h => by cases h⟩
theorem muchR_false {w w' : World} {P : Prop} (h : Grew w w') (hp : P) : MuchR w P (.returned (.bool false)) w' := ⟨false, rfl, h, fun _ => hp⟩
theorem muchR_dec {w w' : World} {P c : Prop} [Decidable c] (h : Grew w w') (hp : ¬ c → P) : MuchR w P (.returned (.bool (decide c))) w' := ⟨_, rfl, h, fun h => hp (of_decide_eq_false h)⟩
theorem take_all {α : Type} {P : α → Prop} {l : List α} {j : Nat} (h : ∀ x ∈ l.take j, P x) (hj : j < l.length) (hx : P l[j]) : ∀ x ∈ l.take (j + 1), P x := by
  intro x hm
  rw [List.take_succ_eq_append_getElem hj] at hm
  rcases List.mem_append.1 hm with h1 | h1
  · exact h x h1
  · rw [List.mem_singleton.1 h1]; exact hx
end Go.Proofs.Ytoaciliojdaoaaa
