/- Slices of bytes that come in, for the laws' frames. No condition. -/
import Derived.Test.YtcokhgomibimcaaFrame3
import Derived.Test.YtcokhgomibimcaaCode
import Derived.Test.YtcokhgomibimcaaCodeMath4
namespace Go.Proofs.Ytcokhgomibimcaa
open Go.RowKit Go.ChangeShapes Go.WideShapes Go.ChangeAt
theorem bytesB : Try.prog.bytesOf 5 = 1 := by kernel_rfl
theorem len_of1 {n b : Nat} (h : n * b ≤ reachBytes) (hb : b = 1) : n ≤ 1000000000000000 := by
  subst hb
  have := reachBytes_lt
  omega
section
variable {H : Type} {enc : TypeId × Value → H} {P : Program}
theorem open_islice_cap {W : World} {t e : TypeId} {k : IntKind} {d : DataW H} {p : List MemPlace} {A : Option Addr} {n c : Nat} (ht : P.underlying t = some (.slice e)) (he : P.underlying e = some (.int k)) (hc : P.cellsOf e = 1)
    (h : DataW.Trod enc P W 0 (fun _ => true) true t (.slice A n c) d p) : n ≤ c := by
  obtain ⟨fuel, hf⟩ := h
  rcases open_ints ht he hc hf with ⟨hcs, _⟩ | ⟨a, len', cap', zs, hcs, _, hl, hm, hz, hx, hcell, hwz⟩
  · simp [Value.cells] at hcs
    obtain ⟨rfl, rfl, rfl⟩ := hcs
    exact Nat.le_refl _
  · simp [Value.cells] at hcs
    obtain ⟨rfl, rfl, rfl⟩ := hcs
    omega
theorem open_bytes {W : World} {r : Reach} {b0 : Nat} {t e : TypeId} {v : Value} {d : DataW H} {p : List MemPlace} (ht : P.underlying t = some (.slice e)) (he : P.underlying e = some (.int .u8)) (hc : P.cellsOf e = 1)
    (hv : Value.okWide P W r b0 t v) (h : DataW.Trod enc P W 0 (fun _ => true) true t v d p) :
    ∃ (A : Option Addr) (c : Nat) (l : List Nat), v = .slice A l.length c ∧ l.length ≤ maxLen ∧ Row W A (bV l) ∧ bytesOk l ∧ l.length ≤ c ∧
      ((d.weights P t).all (· ≤ reachBytes) = true → l.length * P.bytesOf e ≤ reachBytes) := by
  obtain ⟨A, c, l, rfl, hm, hr, hw, hs⟩ := open_islice ht he hc hv h
  have hcap := open_islice_cap ht he hc h
  have hz : ∀ z ∈ l, 0 ≤ z ∧ z < 256 := by
    intro z hz
    have := hw z hz
    simp [Lit.wf, IntKind.min, IntKind.max, IntKind.bits, IntKind.signed] at this
    omega
  have e : l.map (Value.int .u8) = (l.map Int.toNat).map fun (x : Nat) => Value.int .u8 (x : Int) := by
    rw [List.map_map]
    apply List.map_congr_left
    intro z hz'
    show Value.int .u8 z = Value.int .u8 ((z.toNat : Nat) : Int)
    rw [Int.toNat_of_nonneg (hz z hz').1]
  refine ⟨A, c, l.map Int.toNat, by rw [List.length_map], by rw [List.length_map]; exact hm, ?_, ?_, by rw [List.length_map]; exact hcap, by rw [List.length_map]; exact hs⟩
  · unfold bV
    rw [← e]
    exact hr
  · intro x hx
    obtain ⟨z, hz', rfl⟩ := List.mem_map.1 hx
    have := hz z hz'
    omega
end
end Go.Proofs.Ytcokhgomibimcaa
