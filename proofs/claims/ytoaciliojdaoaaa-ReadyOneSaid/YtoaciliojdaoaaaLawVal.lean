/- The laws of layer 1: each returns true, whatever the values, and the world has grown. Condition: texts are no longer than a length may be. -/
import Derived.Test.YtoaciliojdaoaaaVal
namespace Go.Proofs.Ytoaciliojdaoaaa
open Go.RowKit
attribute [local go_sem] more_cell more_frozen more_more more_size more_setCell

theorem cmp_live : cmpN 1 2 ⟨#[]⟩ 1 10 ⟨#[]⟩ = -1 ∧ cmpB 1 1 = true ∧ cmpB 1 0 = false := by
  refine ⟨?_, rfl, rfl⟩
  simp [cmpN, cmpB, ordV, ordI]
theorem cmp_zero : ∀ (a b : List UInt8), Lib.compareBytes a b = 0 ↔ a = b
  | [], [] => by simp [Lib.compareBytes]
  | [], _ :: _ => by simp [Lib.compareBytes]
  | _ :: _, [] => by simp [Lib.compareBytes]
  | a :: x, b :: y => by
    rw [cmp_cons]
    by_cases h1 : a < b
    · rw [if_pos h1]
      constructor
      · intro h; omega
      · intro h
        injection h with h
        subst h
        exact absurd h1 (UInt8.lt_irrefl a)
    · rw [if_neg h1]
      by_cases h2 : b < a
      · rw [if_pos h2]
        constructor
        · intro h; omega
        · intro h
          injection h with h
          subst h
          exact absurd h2 (UInt8.lt_irrefl a)
      · rw [if_neg h2, cmp_zero x y]
        have e : a = b := by
          rw [UInt8.lt_iff_toNat_lt] at h1 h2
          exact UInt8.toNat_inj.1 (by omega)
        simp [e]
theorem toList_data (s : ByteArray) : s.toList = s.data.toList := ByteArray.toList_eq s
theorem ordV_zero (k i : Int) (s : ByteArray) (k' i' : Int) (s' : ByteArray) : (ordV k i s k' i' s' == 0) = sameV k i s k' i' s' := by
  unfold ordV sameV
  rw [toList_data, toList_data]
  by_cases hk : k = k'
  · by_cases hi : i = i'
    · subst hk hi
      rw [if_pos rfl, if_pos rfl, Bool.eq_iff_iff]
      simp [cmp_zero]
    · rw [if_pos hk, if_neg hi, Bool.eq_iff_iff]
      simp [hi, ordI_ne hi]
  · rw [if_neg hk, Bool.eq_iff_iff]
    simp [hk, ordI_ne hk]
end Go.Proofs.Ytoaciliojdaoaaa
