/- Bounds of numbers and floats that come in, for the laws' frames. No condition. -/
import Derived.Test.YtoaciliojdaoaaaFrame2
import Derived.Laws.Cover2
import Derived.Deep.Slices
namespace Go.Proofs.Ytoaciliojdaoaaa
open Go.RowKit Go.ChangeShapes Go.WideShapes Go.ChangeAt
theorem wf_f64 {b : Nat} (h : (Lit.float .f64 b).wf = true) : b < 18446744073709551616 := by
  simp [Lit.wf] at h
  exact h
theorem wf_i64 {n : Int} (h : (Lit.int .i64 n).wf = true) : -9223372036854775808 ≤ n ∧ n ≤ 9223372036854775807 := by
  simp [Lit.wf, IntKind.min, IntKind.max, IntKind.bits, IntKind.signed] at h
  exact h
section
variable {H : Type} {enc : TypeId × Value → H} {P : Program}
/-- A slice of elements of one cell each, whatever they are: as a list of what a reading of one cell tells. -/
theorem open_slice_of {α : Type} [Inhabited α] (f : α → Value) {W : World} {r : Reach} {b0 : Nat} {t e : TypeId} {v : Value} {d : DataW H} {p : List MemPlace} (ht : P.underlying t = some (.slice e)) (hc : P.cellsOf e = 1)
    (hone : ∀ (n : Nat) (u : Value) (y : DataW H × List MemPlace), DataW.trod enc P W 0 (fun _ => true) true n e [u] = some y → ∃ x, u = f x)
    (hv : Value.okWide P W r b0 t v) (h : DataW.Trod enc P W 0 (fun _ => true) true t v d p) : ∃ (A : Option Addr) (c : Nat) (l : List α), v = .slice A l.length c ∧ l.length ≤ maxLen ∧ Row W A (l.map f) := by
  obtain ⟨a0, len, cap, rfl⟩ := okWide_slice ht hv
  obtain ⟨fuel, hf⟩ := h
  rcases Go.Deep.open_slice1 ht hc hf with ⟨hcs, _⟩ | ⟨a, len', cap', m, n, V, D, Pl, hcs, _, hl, hm, hmm, _, hx⟩
  · simp [Value.cells] at hcs
    obtain ⟨rfl, rfl, rfl⟩ := hcs
    exact ⟨none, 0, [], rfl, by unfold maxLen; simp, Or.inl rfl⟩
  · simp [Value.cells] at hcs
    obtain ⟨rfl, rfl, rfl⟩ := hcs
    simp only [if_true] at hmm
    subst hmm
    obtain ⟨X, hX⟩ := Go.Deep.choose_lt (α := α) (p := fun i x => V i = f x) (fun i hi => hone _ _ _ (hx i hi).2)
    refine ⟨some a, m, (List.range len).map X, by simp, by simp; omega, ?_⟩
    by_cases h0 : len = 0
    · subst h0
      exact Or.inl (by simp)
    · have hcell : ∀ i, i < len → W.cell? (a.add i) = some (f (X i)) := fun i hi => by rw [(hx i (by omega)).1, hX i (by omega)]
      have h1 := hcell 0 (by omega)
      obtain ⟨b, off, path⟩ := a
      have hp : path = none := by simpa [Addr.add] using World.cell?_spot h1
      subst hp
      refine Or.inr ⟨b, off, rfl, ?_, fun j u hu => ?_⟩
      · have := cell_lt h1
        simpa [Addr.add] using this
      · simp only [List.map_map, List.getElem?_map, Option.map_eq_some_iff] at hu
        obtain ⟨k, hk, rfl⟩ := hu
        have hj : j < len := by
          rcases Nat.lt_or_ge j len with h | h
          · exact h
          · rw [List.getElem?_eq_none (by simpa using h)] at hk; cases hk
        rw [List.getElem?_range hj] at hk
        injection hk with hk
        subst hk
        have := hcell j hj
        rw [add_plain] at this
        exact this
instance some_small : Inhabited { x : Nat // x < 18446744073709551616 } := ⟨⟨0, by decide⟩⟩
/-- A slice of floats. -/
theorem open_fslice {W : World} {r : Reach} {b0 : Nat} {t e : TypeId} {v : Value} {d : DataW H} {p : List MemPlace} (ht : P.underlying t = some (.slice e)) (he : P.underlying e = some (.float .f64)) (hc : P.cellsOf e = 1)
    (hv : Value.okWide P W r b0 t v) (h : DataW.Trod enc P W 0 (fun _ => true) true t v d p) :
    ∃ (A : Option Addr) (c : Nat) (l : List Nat), v = .slice A l.length c ∧ l.length ≤ maxLen ∧ Row W A (l.map (Value.float .f64)) ∧ ∀ x ∈ l, x < 18446744073709551616 := by
  have hone : ∀ (n : Nat) (u : Value) (y : DataW H × List MemPlace), DataW.trod enc P W 0 (fun _ => true) true n e [u] = some y → ∃ x : { x : Nat // x < 18446744073709551616 }, u = Value.float .f64 x.val := by
    intro n u y hy
    cases n with
    | zero => simp [DataW.trod] at hy
    | succ n =>
      cases u <;> simp [DataW.trod, he] at hy
      rename_i k b
      obtain ⟨⟨rfl, hw⟩, _⟩ := hy
      exact ⟨⟨b, by simp [Lit.wf] at hw; exact hw⟩, rfl⟩
  obtain ⟨A, c, l, h1, h2, h3⟩ := open_slice_of (α := { x : Nat // x < 18446744073709551616 }) (fun x => Value.float .f64 x.val) ht hc hone hv h
  refine ⟨A, c, l.map (·.val), by rw [List.length_map]; exact h1, by rw [List.length_map]; exact h2, by rw [List.map_map]; exact h3, fun x hx => ?_⟩
  obtain ⟨z, _, rfl⟩ := List.mem_map.1 hx
  exact z.2
end
end Go.Proofs.Ytoaciliojdaoaaa
