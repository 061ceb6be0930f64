/- Layer 4: how two rows lie, by the document. Condition: rows that lie in memory that is there. -/
import Derived.Test.YtklhledcnijchaaDoorOrd4
namespace Go.Proofs.YtklhledcnijchaaDoor
open Go.RowKit
attribute [local go_sem] more_cell more_frozen more_more more_setCell more_of_drew more_of_drewN lt_more le_more past_cell past_cell2 past_frozen past_frozen2 past_setCell past_setCell2 mid_cell mid_frozen mid_setCell
attribute [local go_sem ↓] Go.wp_at_zero Go.wp_at_succ

theorem cmpB_zero : ∀ {a b : List UInt8}, Lib.compareBytes a b = 0 → a = b
  | [], [], _ => rfl
  | [], _ :: _, h => by simp [Lib.compareBytes] at h
  | _ :: _, [], h => by simp [Lib.compareBytes] at h
  | x :: a, y :: b, h => by
    unfold Lib.compareBytes at h
    split at h
    · cases h
    · split at h
      · cases h
      · rw [cmpB_zero h]
        rename_i h1 h2
        have : x = y := UInt8.le_antisymm (UInt8.not_lt.1 h2) (UInt8.not_lt.1 h1)
        rw [this]
theorem cmpB_same : ∀ (a : List UInt8), Lib.compareBytes a a = 0
  | [] => by simp [Lib.compareBytes]
  | x :: a => by
    unfold Lib.compareBytes
    rw [if_neg (UInt8.lt_irrefl x), if_neg (UInt8.lt_irrefl x)]
    exact cmpB_same a
theorem ordV_zero {x y : Vl} : ordV x.k x.i x.s y.k y.i y.s = 0 ↔ x = y := by
  unfold ordV
  constructor
  · intro h
    by_cases h1 : x.k = y.k
    · rw [if_pos h1] at h
      by_cases h2 : x.i = y.i
      · rw [if_pos h2] at h
        have h3 := cmpB_zero h
        obtain ⟨k, i, s⟩ := x
        obtain ⟨k', i', s'⟩ := y
        have e : s = s' := by
          apply ByteArray.ext
          apply Array.ext'
          exact h3
        simp only at h1 h2
        rw [h1, h2, e]
      · rw [if_neg h2] at h
        exact absurd h (ordI_ne h2)
    · rw [if_neg h1] at h
      exact absurd h (ordI_ne h1)
  · rintro rfl
    rw [if_pos rfl, if_pos rfl]
    exact cmpB_same _
end Go.Proofs.YtklhledcnijchaaDoor
