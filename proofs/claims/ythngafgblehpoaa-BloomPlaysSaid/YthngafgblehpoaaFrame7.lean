/- Slices of numbers of 64 bits that come in, for the laws' frames. No condition. -/
import Derived.Test.YthngafgblehpoaaFrame5
import Derived.Test.YthngafgblehpoaaBloom2
namespace Go.Proofs.Ythngafgblehpoaa
open Go.RowKit Go.ChangeShapes Go.WideShapes Go.ChangeAt
theorem bytesU : Try.prog.bytesOf 62 = 8 := by kernel_rfl
section
variable {H : Type} {enc : TypeId × Value → H} {P : Program}
theorem open_u64s {W : World} {r : Reach} {b0 : Nat} {t e : TypeId} {v : Value} {d : DataW H} {p : List MemPlace} (ht : P.underlying t = some (.slice e)) (he : P.underlying e = some (.int .u64)) (hc : P.cellsOf e = 1)
    (hv : Value.okWide P W r b0 t v) (h : DataW.Trod enc P W 0 (fun _ => true) true t v d p) :
    ∃ (A : Option Addr) (c : Nat) (l : List Nat), v = .slice A l.length c ∧ l.length ≤ maxLen ∧ URow W A l ∧ wordsOk l ∧
      ((d.weights P t).all (· ≤ reachBytes) = true → l.length * P.bytesOf e ≤ reachBytes) := by
  obtain ⟨A, c, l, rfl, hm, hr, hw, hs⟩ := open_islice ht he hc hv h
  have hz : ∀ z ∈ l, 0 ≤ z ∧ z < 18446744073709551616 := by
    intro z hz
    have := hw z hz
    simp [Lit.wf, IntKind.min, IntKind.max, IntKind.bits, IntKind.signed] at this
    omega
  have e : l.map (Value.int .u64) = (l.map Int.toNat).map fun (x : Nat) => Value.int .u64 (x : Int) := by
    rw [List.map_map]
    apply List.map_congr_left
    intro z hz'
    show Value.int .u64 z = Value.int .u64 ((z.toNat : Nat) : Int)
    rw [Int.toNat_of_nonneg (hz z hz').1]
  refine ⟨A, c, l.map Int.toNat, by rw [List.length_map], by rw [List.length_map]; exact hm, ?_, ?_, by rw [List.length_map]; exact hs⟩
  · unfold URow
    rw [← e]
    exact hr
  · intro x hx
    obtain ⟨z, hz', rfl⟩ := List.mem_map.1 hx
    have := hz z hz'
    omega
end
end Go.Proofs.Ythngafgblehpoaa
