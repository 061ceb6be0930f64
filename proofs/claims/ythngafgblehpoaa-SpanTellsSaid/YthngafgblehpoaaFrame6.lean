/- Slices of values that come in, for the laws' frames. No condition. -/
import Derived.Test.YthngafgblehpoaaFrame4
import Derived.Test.YthngafgblehpoaaSpan2
namespace Go.Proofs.Ythngafgblehpoaa
open Go.RowKit Go.ChangeShapes Go.WideShapes Go.ChangeAt
section
variable {H : Type} {enc : TypeId × Value → H} {P : Program}
instance some_val : Inhabited V := ⟨zeroV⟩
/-- A value, in memory. -/
theorem read_val {W : World} {e : TypeId} {f0 f1 f2 : Field} {n : Nat} {cs : List Value} {y : DataW H × List MemPlace} (he : P.underlying e = some (.struct #[f0, f1, f2])) (hc : P.cellsOf e = 3)
    (h0 : P.underlying f0.type = some (.int .i64)) (h1 : P.underlying f1.type = some (.int .i64)) (h2 : P.underlying f2.type = some .string) (o0 : f0.offset = 0) (o1 : f1.offset = 1) (o2 : f2.offset = 2) (c0 : P.cellsOf f0.type = 1) (c1 : P.cellsOf f1.type = 1) (c2 : P.cellsOf f2.type = 1)
    (h : DataW.trod enc P W 0 (fun _ => true) true n e cs = some y) : ∃ x : V, cs = vc x ∧ x.s.size ≤ maxLen := by
  obtain ⟨y0, y1, y2, m, _, hl, q0, q1, q2⟩ := Go.Deep.trod_struct3 he h
  rw [hc] at hl
  rw [o0, c0] at q0
  rw [o1, c1] at q1
  rw [o2, c2] at q2
  match cs, hl with
  | [a, b, c], _ =>
    obtain ⟨x0, e0, _⟩ := DataW.trod_int h0 q0
    obtain ⟨x1, e1, _⟩ := DataW.trod_int h1 q1
    obtain ⟨x2, e2, _, z2⟩ := DataW.trod_string h2 q2
    simp at e0 e1 e2
    exact ⟨⟨x0, x1, x2⟩, by rw [e0, e1, e2]; rfl, z2⟩
theorem open_vals {W : World} {r : Reach} {b0 : Nat} {t e : TypeId} {f0 f1 f2 : Field} {v : Value} {d : DataW H} {p : List MemPlace} (ht : P.underlying t = some (.slice e)) (he : P.underlying e = some (.struct #[f0, f1, f2])) (hc : P.cellsOf e = 3)
    (h0 : P.underlying f0.type = some (.int .i64)) (h1 : P.underlying f1.type = some (.int .i64)) (h2 : P.underlying f2.type = some .string) (o0 : f0.offset = 0) (o1 : f1.offset = 1) (o2 : f2.offset = 2) (c0 : P.cellsOf f0.type = 1) (c1 : P.cellsOf f1.type = 1) (c2 : P.cellsOf f2.type = 1)
    (hv : Value.okWide P W r b0 t v) (h : DataW.Trod enc P W 0 (fun _ => true) true t v d p) :
    ∃ (A : Option Addr) (c : Nat) (l : List V), v = .slice A l.length c ∧ l.length ≤ maxLen ∧ VRow W A l ∧ ∀ x ∈ l, x.s.size ≤ maxLen := by
  obtain ⟨a0, len, cap, rfl⟩ := okWide_slice ht hv
  obtain ⟨fuel, hf⟩ := h
  obtain ⟨A, c, l, css, hcs, hm, hl, hx, hg⟩ := open_grid (α := V) (fun x cs => cs = vc x ∧ x.s.size ≤ maxLen) ht (by rw [hc]; omega) (fun n cs y _ hy => read_val he hc h0 h1 h2 o0 o1 o2 c0 c1 c2 hy) hf
  have e : css = l.map vc := by
    apply List.ext_getElem?
    intro i
    by_cases hi : i < l.length
    · have h2 := (hx i l[i] (css[i]'(by omega)) (List.getElem?_eq_getElem hi) (List.getElem?_eq_getElem (by omega))).1.1
      rw [List.getElem?_eq_getElem (by omega), List.getElem?_map, List.getElem?_eq_getElem hi, h2]
      rfl
    · rw [List.getElem?_eq_none (by omega), List.getElem?_eq_none (by rw [List.length_map]; omega)]
  have hs : ∀ x ∈ l, x.s.size ≤ maxLen := by
    intro x hxl
    obtain ⟨i, hi, rfl⟩ := List.getElem_of_mem hxl
    exact (hx i l[i] (css[i]'(by omega)) (List.getElem?_eq_getElem hi) (List.getElem?_eq_getElem (by omega))).1.2
  subst e
  rw [hc] at hg
  refine ⟨A, c, l, ?_, hm, hg, hs⟩
  simpa [Value.cells] using hcs
end
end Go.Proofs.Ythngafgblehpoaa
