/- Rows that are not much: how long their keys may be. No condition. -/
import Derived.Test.YtpcbnmpfiepaeaaDoorRKey
import Derived.Test.YtpcbnmpfiepaeaaDoorRowMuch
namespace Go.Proofs.YtpcbnmpfiepaeaaDoor
open Go.RowKit

theorem keyT_tight (k i : Int) (s : ByteArray) : (keyT k i s).size ≤ s.size + 9 := by
  unfold keyT
  by_cases h0 : k = 0
  · rw [if_pos h0]
    show 1 ≤ s.size + 9
    omega
  · rw [if_neg h0]
    by_cases h1 : k = 1
    · rw [if_pos h1, ByteArray.size_append]
      have : (⟨(keyBytes i).toArray⟩ : ByteArray).size = 8 := by simp [keyBytes, ByteArray.size]
      rw [this]
      show 1 + 8 ≤ s.size + 9
      omega
    · rw [if_neg h1]
      by_cases h2 : k = 2
      · rw [if_pos h2, ByteArray.size_append]
        have : (⟨#[116]⟩ : ByteArray).size = 1 := rfl
        omega
      · rw [if_neg h2]
        show 0 ≤ s.size + 9
        omega
theorem keyRowL_tight (l : List Vl) (h : ∀ v ∈ l, v.s.size ≤ 3000) : (keyRowL l).length ≤ szR l + 30 * l.length := by
  induction l with
  | nil => simp [keyRowL]
  | cons v l ih =>
    have h1 := ih fun x hx => h x (List.mem_cons_of_mem _ hx)
    have h2 := keyT_tight v.k v.i v.s
    have h4 := h v (List.mem_cons_self ..)
    have h3 := Lib.itoa_length_le ((keyT v.k v.i v.s).size : Nat) (by omega) (by omega)
    have h5 : (keyT v.k v.i v.s).data.toList.length = (keyT v.k v.i v.s).size := by rw [Array.length_toList]; rfl
    have e1 : keyRowL (v :: l) = keyV v ++ keyRowL l := by simp [keyRowL]
    have e2 : szR (v :: l) = (1 + v.s.size) + szR l := by simp [szR]
    have e3 : (keyV v).length ≤ v.s.size + 31 := by
      unfold keyV
      rw [List.length_append, List.length_cons, h5]
      omega
    rw [e1, e2, List.length_append, List.length_cons]
    omega
theorem szR_mem {l : List Vl} {v : Vl} (hv : v ∈ l) : v.s.size ≤ szR l := by
  induction l with
  | nil => cases hv
  | cons x l ih =>
    have e2 : szR (x :: l) = (1 + x.s.size) + szR l := by simp [szR]
    rcases List.mem_cons.1 hv with rfl | hv
    · omega
    · have := ih hv
      omega
theorem good_row {l : List Vl} (h : goodRws [l]) : l.length ≤ 40 ∧ (∀ v ∈ l, v.s.size ≤ 3000) ∧ (keyRowL l).length ≤ 100000 := by
  have h1 := h.2.1 l (by simp)
  have h2 : szR l ≤ 2000 := by
    have := h.2.2
    simpa [szRs] using this
  have h3 : ∀ v ∈ l, v.s.size ≤ 3000 := fun v hv => Nat.le_trans (szR_mem hv) (by omega)
  have h4 := keyRowL_tight l h3
  exact ⟨h1, h3, by omega⟩
end Go.Proofs.YtpcbnmpfiepaeaaDoor
