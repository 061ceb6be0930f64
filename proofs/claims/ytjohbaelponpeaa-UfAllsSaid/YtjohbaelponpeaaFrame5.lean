/- Slices of pairs of numbers that come in, for the laws' frames. No condition. -/
import Derived.Test.YtjohbaelponpeaaFrame4
namespace Go.Proofs.Ytjohbaelponpeaa
open Go.RowKit Go.ChangeShapes Go.WideShapes Go.ChangeAt
theorem wf_u8b {a : Int} (h : (Lit.int .u8 a).wf = true) : 0 ≤ a ∧ a < 256 := by
  simp [Lit.wf, IntKind.min, IntKind.max, IntKind.bits, IntKind.signed] at h
  omega
section
variable {H : Type} {enc : TypeId × Value → H} {P : Program}
/-- A struct of two numbers, in memory. -/
theorem read_pair {W : World} {e : TypeId} {f0 f1 : Field} {k0 k1 : IntKind} {n : Nat} {cs : List Value} {y : DataW H × List MemPlace} (he : P.underlying e = some (.struct #[f0, f1])) (hc : P.cellsOf e = 2)
    (h0 : P.underlying f0.type = some (.int k0)) (h1 : P.underlying f1.type = some (.int k1)) (o0 : f0.offset = 0) (o1 : f1.offset = 1) (c0 : P.cellsOf f0.type = 1) (c1 : P.cellsOf f1.type = 1)
    (h : DataW.trod enc P W 0 (fun _ => true) true n e cs = some y) : ∃ x : Int × Int, cs = [.int k0 x.1, .int k1 x.2] := by
  obtain ⟨y0, y1, m, _, hl, q0, q1⟩ := trod_struct2 he h
  rw [hc] at hl
  rw [o0, c0] at q0
  rw [o1, c1] at q1
  match cs, hl with
  | [a, b], _ =>
    obtain ⟨x0, e0, _⟩ := DataW.trod_int h0 q0
    obtain ⟨x1, e1, _⟩ := DataW.trod_int h1 q1
    simp at e0 e1
    exact ⟨(x0, x1), by rw [e0, e1]⟩
theorem open_pairs {W : World} {r : Reach} {b0 : Nat} {t e : TypeId} {f0 f1 : Field} {v : Value} {d : DataW H} {p : List MemPlace} (ht : P.underlying t = some (.slice e)) (he : P.underlying e = some (.struct #[f0, f1])) (hc : P.cellsOf e = 2)
    (h0 : P.underlying f0.type = some (.int .i64)) (h1 : P.underlying f1.type = some (.int .i64)) (o0 : f0.offset = 0) (o1 : f1.offset = 1) (c0 : P.cellsOf f0.type = 1) (c1 : P.cellsOf f1.type = 1)
    (hv : Value.okWide P W r b0 t v) (h : DataW.Trod enc P W 0 (fun _ => true) true t v d p) :
    ∃ (A : Option Addr) (c : Nat) (l : List (Int × Int)), v = .slice A l.length c ∧ l.length ≤ maxLen ∧ Grid W A 2 (l.map fun p => [.int .i64 p.1, .int .i64 p.2]) := by
  obtain ⟨a0, len, cap, rfl⟩ := okWide_slice ht hv
  obtain ⟨fuel, hf⟩ := h
  obtain ⟨A, c, l, css, hcs, hm, hl, hx, hg⟩ := open_grid (α := Int × Int) (fun x cs => cs = [.int .i64 x.1, .int .i64 x.2]) ht (by rw [hc]; omega) (fun n cs y _ hy => read_pair he hc h0 h1 o0 o1 c0 c1 hy) hf
  have e : css = l.map fun p => [.int .i64 p.1, .int .i64 p.2] := by
    apply List.ext_getElem?
    intro i
    by_cases hi : i < l.length
    · have h2 := (hx i l[i] (css[i]'(by omega)) (List.getElem?_eq_getElem hi) (List.getElem?_eq_getElem (by omega))).1
      rw [List.getElem?_eq_getElem (by omega), List.getElem?_map, List.getElem?_eq_getElem hi, h2]
      rfl
    · rw [List.getElem?_eq_none (by omega), List.getElem?_eq_none (by rw [List.length_map]; omega)]
  subst e
  rw [hc] at hg
  refine ⟨A, c, l, ?_, hm, hg⟩
  simpa [Value.cells] using hcs
end
end Go.Proofs.Ytjohbaelponpeaa
