/- The laws of layer 1: each returns true, whatever the values, and the world has grown. Condition: texts are no longer than a length may be. -/
import Derived.Test.YthmaablodgcgkaaVal
namespace Go.Proofs.Ythmaablodgcgkaa
open Go.RowKit
attribute [local go_sem] more_cell more_frozen more_more more_size more_setCell

theorem cmp_live : cmpN 1 2 ⟨#[]⟩ 1 10 ⟨#[]⟩ = -1 ∧ cmpB 1 1 = true ∧ cmpB 1 0 = false := by
  refine ⟨?_, rfl, rfl⟩
  simp [cmpN, cmpB, ordV, ordI]
set_option maxHeartbeats 400000 in
theorem live1_any (w : World) : Gives Try.prog 13 #[] w (.bool true) := by
  unfold Gives
  obtain ⟨l1, l2, l3⟩ := cmp_live
  go_enter Try.func13, Try.ntmps13
  go_wp2_with (first | (go_at_call 20; refine (int_any _ _).mono ?_; rintro e w' ⟨rfl, x, rfl⟩) | (go_at_call 22; refine (null_any _).mono ?_; rintro e w' ⟨rfl, x, rfl⟩) | (go_at_call 14; refine (cmp_any _ _ _ _ _ _ _).mono ?_; rintro e w' ⟨rfl, x, rfl⟩))
  go_ret
  exact ⟨rfl, _, rfl⟩
theorem cmp_zero : ∀ (a b : List UInt8), Lib.compareBytes a b = 0 ↔ a = b
  | [], [] => by simp [Lib.compareBytes]
  | [], _ :: _ => by simp [Lib.compareBytes]
  | _ :: _, [] => by simp [Lib.compareBytes]
  | a :: x, b :: y => by
    rw [cmp_cons]
    by_cases h1 : a < b
    · rw [if_pos h1]
      constructor
      · intro h; omega
      · intro h
        injection h with h
        subst h
        exact absurd h1 (UInt8.lt_irrefl a)
    · rw [if_neg h1]
      by_cases h2 : b < a
      · rw [if_pos h2]
        constructor
        · intro h; omega
        · intro h
          injection h with h
          subst h
          exact absurd h2 (UInt8.lt_irrefl a)
      · rw [if_neg h2, cmp_zero x y]
        have e : a = b := by
          rw [UInt8.lt_iff_toNat_lt] at h1 h2
          exact UInt8.toNat_inj.1 (by omega)
        simp [e]
theorem toList_data (s : ByteArray) : s.toList = s.data.toList := ByteArray.toList_eq s
theorem ordV_zero (k i : Int) (s : ByteArray) (k' i' : Int) (s' : ByteArray) : (ordV k i s k' i' s' == 0) = sameV k i s k' i' s' := by
  unfold ordV sameV
  rw [toList_data, toList_data]
  by_cases hk : k = k'
  · by_cases hi : i = i'
    · subst hk hi
      rw [if_pos rfl, if_pos rfl, Bool.eq_iff_iff]
      simp [cmp_zero]
    · rw [if_pos hk, if_neg hi, Bool.eq_iff_iff]
      simp [hi, ordI_ne hi]
  · rw [if_neg hk, Bool.eq_iff_iff]
    simp [hk, ordI_ne hk]
set_option maxHeartbeats 400000 in
theorem valOrders_walk (k i : Int) (s : ByteArray) (k' i' : Int) (s' : ByteArray) (hs : s.size ≤ maxLen) (w : World) :
    Gives Try.prog 3 #[.agg #[.int .i64 k, .int .i64 i, .string s], .agg #[.int .i64 k', .int .i64 i', .string s']] w (.bool true) := by
  unfold Gives
  have hz := ordV_zero k i s k' i' s'
  go_enter Try.func3, Try.ntmps3
  go_wp2_with (first | (go_at_call 12; refine (long_any _ _ _ _).mono ?_; rintro e w' ⟨rfl, x, rfl⟩) | (go_at_call 13; refine (live1_any _).mono ?_; rintro e w' ⟨rfl, x, rfl⟩) | (go_at_call 14; refine (cmp_any _ _ _ _ _ _ _).mono ?_; rintro e w' ⟨rfl, x, rfl⟩) | (go_at_call 15; refine (rcmp_any _ _ _ _ _ _ hs _).mono ?_; rintro e w' ⟨rfl, x, rfl⟩))
  · go_ret
    exact ⟨rfl, Grew.more (((Grew.refl w).alloc _).alloc _) _⟩
  · refine wp_region_more (by kernel_rfl) (by kernel_rfl) ?_
    repeat (go_big_quiet_step ((first | (go_at_call 16; exact (order_any _ _ _ _ _ _ _).inside) | (go_at_call 17; exact (rorder_any _ _ _ _ _ _ hs _).inside) | (go_at_call 18; exact (same_any _ _ _ _ _ _ _).inside) | (go_at_call 19; exact (rsame_any _ _ _ _ _ _ _).inside) | (go_at_call 13; exact (live1_any _).inside))))
    refine wpQuiet_nil ?_
    rintro _ ⟨z, rfl⟩
    go_wp2
    go_ret
    exact ⟨rfl, Grew.more (Grew.more (((Grew.refl w).alloc _).alloc _) _) _⟩
  · go_ret
    exact ⟨rfl, Grew.more (((Grew.refl w).alloc _).alloc _) _⟩
end Go.Proofs.Ythmaablodgcgkaa
