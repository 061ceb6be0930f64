/- Layer 27: the document's sort. Condition: no more than a million numbers. -/
import Derived.Test.YtpdkacfhnmfmaaaHist
namespace Go.Proofs.Ytpdkacfhnmfmaaa
open Go.RowKit
attribute [local go_sem] more_cell more_frozen more_more more_setCell more_of_drew more_of_drewN lt_more le_more past_cell past_cell2 past_frozen past_frozen2 past_setCell past_setCell2 mid_cell mid_frozen mid_setCell
attribute [local go_sem ↓] Go.wp_at_zero Go.wp_at_succ

theorem row_takeI {w : World} {A : Option Addr} {l : List Int} (h : Row w A (iV l)) (q : Nat) : Row w A (iV (l.take q)) := by
  rcases h with h | ⟨b, o, hA, hb, hc⟩
  · have : l = [] := by simpa [iV] using h
    subst this
    exact Or.inl (by simp [iV])
  · refine Or.inr ⟨b, o, hA, hb, fun j u hu => hc j u ?_⟩
    simp only [iV, List.map_take] at hu ⊢
    rw [List.getElem?_take] at hu
    split at hu
    · exact hu
    · cases hu
theorem row_dropI {w : World} {A : Option Addr} {l : List Int} (h : Row w A (iV l)) (q : Nat) : Row w (A.map (fun a => a.add q)) (iV (l.drop q)) := by
  rcases h with h | ⟨b, o, hA, hb, hc⟩
  · have : l = [] := by simpa [iV] using h
    subst this
    exact Or.inl (by simp [iV])
  · subst hA
    refine Or.inr ⟨b, o + q, by simp [add_plain], hb, fun j u hu => ?_⟩
    simp only [iV, List.map_drop, List.getElem?_drop] at hu
    have := hc (q + j) u hu
    rw [Nat.add_assoc]
    exact this
theorem own_cap {w : World} {base n c : Nat} {e : TypeId} {A : Option Addr} {xs : List Value} (h : w.ownsRow base e 1 (.slice A n c) n xs) : n ≤ c := by
  rcases h.2 with ⟨h, h0⟩ | ⟨g, cap, cur, hv, _, _, h1, _⟩
  · omega
  · cases hv; exact h1
def SrtAt (w : World) (l : List Int) (v i : Value) (wr : World) : Prop := ∃ (j : Nat) (A : Option Addr) (c : Nat), j ≤ l.length ∧ i = .int .i64 j ∧ v = .slice A j c ∧ j ≤ c ∧ Grew w wr ∧ Row wr A (iV (sortI (l.take j)))
def ScanAt (w : World) (s : List Int) (x : Int) (k : Value) (wr : World) : Prop := ∃ j : Nat, j ≤ s.length ∧ k = .int .i64 j ∧ Grew w wr ∧ ∀ y ∈ s.drop j, x ≤ y
end Go.Proofs.Ytpdkacfhnmfmaaa
