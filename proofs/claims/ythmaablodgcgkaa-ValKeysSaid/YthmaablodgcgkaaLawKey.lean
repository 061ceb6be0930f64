/- The law of keys, of layer 1. Condition: a value's number is one of 64 bits. -/
import Derived.Test.YthmaablodgcgkaaLawVal
import Derived.Test.YthmaablodgcgkaaKey
namespace Go.Proofs.Ythmaablodgcgkaa
open Go.RowKit
attribute [local go_sem] more_cell more_frozen more_more more_setCell more_of_drew more_of_drewN lt_more le_more past_cell past_cell2 past_frozen past_frozen2 past_setCell past_setCell2 mid_cell mid_frozen mid_setCell
attribute [local go_sem ↓] Go.wp_at_zero Go.wp_at_succ

/-- Bytes as one number, the highest first. -/
def valB : List UInt8 → Nat
  | [] => 0
  | b :: l => b.toNat * 256 ^ l.length + valB l
theorem valB_lt : ∀ l, valB l < 256 ^ l.length
  | [] => by decide
  | b :: l => by
    have h1 := valB_lt l
    have h2 : b.toNat < 256 := b.toNat_lt
    have h3 := Nat.mul_le_mul_right (256 ^ l.length) (show b.toNat + 1 ≤ 256 by omega)
    rw [valB, List.length_cons, Nat.pow_succ]
    rw [Nat.add_mul, Nat.one_mul] at h3
    omega
theorem cmp_valB : ∀ a b : List UInt8, a.length = b.length → Lib.compareBytes a b = ordI (valB a) (valB b)
  | [], [], _ => rfl
  | [], _ :: _, h => by simp at h
  | _ :: _, [], h => by simp at h
  | a :: x, b :: y, h => by
    have hl : x.length = y.length := by simpa using h
    have v1 := valB_lt x
    have v2 := valB_lt y
    rw [cmp_cons, cmp_valB x y hl, valB, valB, hl]
    rw [hl] at v1
    by_cases h1 : a < b
    · rw [if_pos h1]
      rw [UInt8.lt_iff_toNat_lt] at h1
      have h3 := Nat.mul_le_mul_right (256 ^ y.length) (show a.toNat + 1 ≤ b.toNat by omega)
      rw [Nat.add_mul, Nat.one_mul] at h3
      unfold ordI
      rw [if_pos (by omega)]
    · rw [if_neg h1]
      by_cases h2 : b < a
      · rw [if_pos h2]
        rw [UInt8.lt_iff_toNat_lt] at h2
        have h3 := Nat.mul_le_mul_right (256 ^ y.length) (show b.toNat + 1 ≤ a.toNat by omega)
        rw [Nat.add_mul, Nat.one_mul] at h3
        unfold ordI
        rw [if_neg (by omega), if_pos (by omega)]
      · rw [if_neg h2]
        have e : a = b := by
          rw [UInt8.lt_iff_toNat_lt] at h1 h2
          exact UInt8.toNat_inj.1 (by omega)
        subst e
        unfold ordI
        generalize a.toNat * 256 ^ y.length = p
        by_cases c1 : (valB x : Int) < valB y
        · rw [if_pos c1, if_pos (by omega)]
        · by_cases c2 : (valB y : Int) < valB x
          · rw [if_neg c1, if_pos c2, if_neg (by omega), if_pos (by omega)]
          · rw [if_neg c1, if_neg c2, if_neg (by omega), if_neg (by omega)]
theorem key_top (n : Int) : keyN n / 256 ^ 8 = 0 := by
  have h0 : 0 ≤ keyN n := by unfold keyN; omega
  have h1 : keyN n < 256 ^ 8 := by unfold keyN; omega
  exact Int.ediv_eq_zero_of_lt h0 h1
theorem valB_key (n : Int) : (valB (keyBytes n) : Int) = keyN n := by
  have e0 : keyN n / 256 ^ 0 = keyN n := by rw [Int.pow_zero, Int.ediv_one]
  have d0 := key_div n 0
  have d1 := key_div n 1
  have d2 := key_div n 2
  have d3 := key_div n 3
  have d4 := key_div n 4
  have d5 := key_div n 5
  have d6 := key_div n 6
  have d7 := key_div n 7
  have e8 := key_top n
  have u0 := keyU_toNat n 7
  have u1 := keyU_toNat n 6
  have u2 := keyU_toNat n 5
  have u3 := keyU_toNat n 4
  have u4 := keyU_toNat n 3
  have u5 := keyU_toNat n 2
  have u6 := keyU_toNat n 1
  have u7 := keyU_toNat n 0
  have hk : keyBytes n = [keyU n 0, keyU n 1, keyU n 2, keyU n 3, keyU n 4, keyU n 5, keyU n 6, keyU n 7] := rfl
  rw [hk]
  simp only [valB, List.length_cons, List.length_nil]
  rw [e0] at d0
  simp only [Nat.zero_add, Nat.reduceAdd, Nat.reduceSub, Nat.sub_self, e0] at d0 d1 d2 d3 d4 d5 d6 d7 u0 u1 u2 u3 u4 u5 u6 u7
  generalize keyN n / 256 ^ 1 = y1 at *
  generalize keyN n / 256 ^ 2 = y2 at *
  generalize keyN n / 256 ^ 3 = y3 at *
  generalize keyN n / 256 ^ 4 = y4 at *
  generalize keyN n / 256 ^ 5 = y5 at *
  generalize keyN n / 256 ^ 6 = y6 at *
  generalize keyN n / 256 ^ 7 = y7 at *
  generalize keyN n / 256 ^ 8 = y8 at *
  generalize keyN n = y0 at *
  simp only [Nat.reducePow]
  omega
theorem keyBytes_length (n : Int) : (keyBytes n).length = 8 := by simp [keyBytes]
theorem key_cmp (i i' : Int) (h1 : -9223372036854775808 ≤ i) (h2 : i < 9223372036854775808) (h3 : -9223372036854775808 ≤ i') (h4 : i' < 9223372036854775808) : Lib.compareBytes (keyBytes i) (keyBytes i') = ordI i i' := by
  rw [cmp_valB _ _ (by rw [keyBytes_length, keyBytes_length]), valB_key, valB_key]
  unfold ordI keyN
  by_cases c1 : i < i'
  · rw [if_pos c1, if_pos (by omega)]
  · by_cases c2 : i' < i
    · rw [if_neg c1, if_pos c2, if_neg (by omega), if_pos (by omega)]
    · rw [if_neg c1, if_neg c2, if_neg (by omega), if_neg (by omega)]
theorem empty_data {s : ByteArray} (h : s.toList.isEmpty = true) : s.data.toList = [] := by
  rw [← toList_data]
  simpa using h
theorem right_cases {k i : Int} {s : ByteArray} (h : rightV k i s = true) : (k = 0 ∧ i = 0 ∧ s.data.toList = []) ∨ (k = 1 ∧ s.data.toList = []) ∨ (k = 2 ∧ i = 0) := by
  unfold rightV at h
  rw [Bool.or_eq_true, Bool.or_eq_true] at h
  rcases h with (h | h) | h
  · rw [Bool.and_eq_true, Bool.and_eq_true, beq_iff_eq, beq_iff_eq] at h
    exact Or.inl ⟨h.1, h.2.1, empty_data h.2.2⟩
  · rw [Bool.and_eq_true, beq_iff_eq] at h
    exact Or.inr (Or.inl ⟨h.1, empty_data h.2⟩)
  · rw [Bool.and_eq_true, Bool.and_eq_true, beq_iff_eq, beq_iff_eq] at h
    exact Or.inr (Or.inr ⟨h.1, h.2.1⟩)
def keyL (k i : Int) (s : ByteArray) : List UInt8 := if k = 0 then [110] else if k = 1 then 105 :: keyBytes i else if k = 2 then 116 :: s.data.toList else []
theorem keyT_data (k i : Int) (s : ByteArray) : (keyT k i s).data.toList = keyL k i s := by
  unfold keyT keyL
  by_cases h0 : k = 0
  · rw [if_pos h0, if_pos h0]
  · rw [if_neg h0, if_neg h0]
    by_cases h1 : k = 1
    · rw [if_pos h1, if_pos h1]
      simp
    · rw [if_neg h1, if_neg h1]
      by_cases h2 : k = 2
      · rw [if_pos h2, if_pos h2]
        simp
      · rw [if_neg h2, if_neg h2]
theorem cmp_head (c : UInt8) (a b : List UInt8) : Lib.compareBytes (c :: a) (c :: b) = Lib.compareBytes a b := by
  rw [cmp_cons, if_neg (UInt8.lt_irrefl c), if_neg (UInt8.lt_irrefl c)]
theorem key_order {k i : Int} {s : ByteArray} {i' : Int} {s' : ByteArray} (h : rightV k i s = true) (h' : rightV k i' s' = true) (h1 : -9223372036854775808 ≤ i) (h2 : i < 9223372036854775808) (h3 : -9223372036854775808 ≤ i') (h4 : i' < 9223372036854775808) :
    Lib.compareBytes (keyL k i s) (keyL k i' s') = ordV k i s k i' s' := by
  unfold ordV
  rw [if_pos rfl]
  rcases right_cases h with ⟨rfl, rfl, e1⟩ | ⟨rfl, e1⟩ | ⟨rfl, rfl⟩
  · rcases right_cases h' with ⟨_, rfl, e2⟩ | ⟨hk, _⟩ | ⟨hk, _⟩
    · rw [if_pos rfl, e1, e2]
      rfl
    · exact absurd hk (by decide)
    · exact absurd hk (by decide)
  · rcases right_cases h' with ⟨hk, _⟩ | ⟨_, e2⟩ | ⟨hk, _⟩
    · exact absurd hk (by decide)
    · show Lib.compareBytes (105 :: keyBytes i) (105 :: keyBytes i') = _
      rw [cmp_head, key_cmp i i' h1 h2 h3 h4, e1, e2]
      by_cases hi : i = i'
      · subst hi
        rw [if_pos rfl, ordI_self]
        rfl
      · rw [if_neg hi]
    · exact absurd hk (by decide)
  · rcases right_cases h' with ⟨hk, _⟩ | ⟨hk, _⟩ | ⟨_, rfl⟩
    · exact absurd hk (by decide)
    · exact absurd hk (by decide)
    · rw [if_pos rfl]
      exact cmp_head _ _ _
theorem key_same {k i : Int} {s : ByteArray} {k' i' : Int} {s' : ByteArray} (h : rightV k i s = true) (h' : rightV k' i' s' = true) (h1 : -9223372036854775808 ≤ i) (h2 : i < 9223372036854775808) (h3 : -9223372036854775808 ≤ i') (h4 : i' < 9223372036854775808) :
    ((keyT k i s).toList == (keyT k' i' s').toList) = sameV k i s k' i' s' := by
  rw [toList_data, toList_data, keyT_data, keyT_data]
  by_cases hk : k = k'
  · subst hk
    rw [← ordV_zero, ← key_order h h' h1 h2 h3 h4, Bool.eq_iff_iff]
    simp only [beq_iff_eq]
    exact (cmp_zero _ _).symm
  · have hs : sameV k i s k' i' s' = false := by
      unfold sameV
      rw [show (k == k') = false by simpa using hk]
      rfl
    rw [hs]
    rcases right_cases h with ⟨rfl, _⟩ | ⟨rfl, _⟩ | ⟨rfl, _⟩ <;> rcases right_cases h' with ⟨rfl, _⟩ | ⟨rfl, _⟩ | ⟨rfl, _⟩
    all_goals first | exact absurd rfl hk | rfl
theorem key_size (k i : Int) (s : ByteArray) (h : s.size ≤ 300) : (keyT k i s).size ≤ maxLen := by
  have h1 : (keyT k i s).data.toList.length ≤ 301 := by
    rw [keyT_data]
    unfold keyL
    by_cases h0 : k = 0
    · rw [if_pos h0]; decide
    · rw [if_neg h0]
      by_cases h1 : k = 1
      · rw [if_pos h1, List.length_cons, keyBytes_length]; decide
      · rw [if_neg h1]
        by_cases h2 : k = 2
        · rw [if_pos h2, List.length_cons, Array.length_toList]
          have : s.data.size ≤ 300 := h
          omega
        · rw [if_neg h2]; decide
  rw [Array.length_toList] at h1
  show (keyT k i s).data.size ≤ maxLen
  unfold maxLen
  omega
set_option maxHeartbeats 1000000 in
theorem valKeys_walk (k i : Int) (s : ByteArray) (k' i' : Int) (s' : ByteArray) (h1 : -9223372036854775808 ≤ i) (h2 : i < 9223372036854775808) (h3 : -9223372036854775808 ≤ i') (h4 : i' < 9223372036854775808) (w : World) :
    Gives Try.prog 5 #[.agg #[.int .i64 k, .int .i64 i, .string s], .agg #[.int .i64 k', .int .i64 i', .string s']] w (.bool true) := by
  unfold Gives
  by_cases hs : 300 < s.size
  · go_enter Try.func5, Try.ntmps5
    go_wp2_with (first | (go_at_call 12; refine (long_any _ _ _ _).mono ?_; rintro e w' ⟨rfl, x, rfl⟩) | (go_at_call 13; refine (live1_any _).mono ?_; rintro e w' ⟨rfl, x, rfl⟩))
    all_goals
      go_ret
      exact ⟨rfl, by (show Grew _ _; repeat (first | exact Grew.refl _ | refine Grew.alloc ?_ _ | refine Grew.drew ?_ | refine Grew.more ?_ _))⟩
  · by_cases hs' : 300 < s'.size
    · go_enter Try.func5, Try.ntmps5
      go_wp2_with (first | (go_at_call 12; refine (long_any _ _ _ _).mono ?_; rintro e w' ⟨rfl, x, rfl⟩) | (go_at_call 13; refine (live1_any _).mono ?_; rintro e w' ⟨rfl, x, rfl⟩))
      all_goals
        go_ret
        exact ⟨rfl, by (show Grew _ _; repeat (first | exact Grew.refl _ | refine Grew.alloc ?_ _ | refine Grew.drew ?_ | refine Grew.more ?_ _))⟩
    · have z1 : s.size ≤ 300 := by omega
      have z2 : s'.size ≤ 300 := by omega
      have t1 : (keyT k i s).size ≤ maxLen := key_size k i s z1
      by_cases r : rightV k i s = true ∧ rightV k' i' s' = true
      · obtain ⟨r1, r2⟩ := r
        have q1 := key_same r1 r2 h1 h2 h3 h4
        have q2 : k = k' → Lib.compareBytes (keyT k i s).data.toList (keyT k' i' s').data.toList = ordV k i s k' i' s' := by
          rintro rfl
          rw [keyT_data, keyT_data]
          exact key_order r1 r2 h1 h2 h3 h4
        by_cases hk : k = k'
        · have q3 := q2 hk
          subst hk
          clear q2
          go_enter Try.func5, Try.ntmps5
          go_wp2_with (first | (go_at_call 12; refine (long_any _ _ _ _).mono ?_; rintro e w' ⟨rfl, x, rfl⟩) | (go_at_call 13; refine (live1_any _).mono ?_; rintro e w' ⟨rfl, x, rfl⟩))
          refine wp_region_more (by kernel_rfl) (by kernel_rfl) ?_
          repeat (go_big_quiet_step ((first | (go_at_call 26; exact (key_any _ _ _ (by assumption) _).inside) | (go_at_call 27; exact (rkey_any _ _ _ (by assumption) _).inside))))
          refine wpQuiet_nil ?_
          rintro _ ⟨z, rfl⟩
          go_wp2_with (first | (go_at_call 27; refine (rkey_any _ _ _ (by assumption) _).mono ?_; rintro e w' ⟨rfl, x, rfl⟩) | (go_at_call 24; refine (rright_any _ _ _ _).mono ?_; rintro e w' ⟨rfl, x, rfl⟩) | (go_at_call 13; refine (live1_any _).mono ?_; rintro e w' ⟨rfl, x, rfl⟩))
          refine wp_region_more (by kernel_rfl) (by kernel_rfl) ?_
          repeat (go_big_quiet_step ((first | (go_at_call 19; exact (rsame_any _ _ _ _ _ _ _).inside) | (go_at_call 28; exact (Gives.of_grew (texts_any _ _ (by assumption) _)).inside) | (go_at_call 17; exact (rorder_any _ _ _ _ _ _ (by unfold maxLen; omega) _).inside) | (go_at_call 13; exact (live1_any _).inside))))
          refine wpQuiet_nil ?_
          rintro _ ⟨z, rfl⟩
          go_wp2_with (first | (go_at_call 12; refine (long_any _ _ _ _).mono ?_; rintro e w' ⟨rfl, x, rfl⟩) | (go_at_call 13; refine (live1_any _).mono ?_; rintro e w' ⟨rfl, x, rfl⟩))
          go_ret
          exact ⟨rfl, by (show Grew _ _; repeat (first | exact Grew.refl _ | refine Grew.alloc ?_ _ | refine Grew.drew ?_ | refine Grew.more ?_ _))⟩
        · have hb1 : (k != k') = true := by simpa using hk
          have hb2 : decide (k = k') = false := by simpa using hk
          have hb3 : (k == k') = false := by simpa using hk
          go_enter Try.func5, Try.ntmps5
          go_wp2_with (first | (go_at_call 12; refine (long_any _ _ _ _).mono ?_; rintro e w' ⟨rfl, x, rfl⟩) | (go_at_call 13; refine (live1_any _).mono ?_; rintro e w' ⟨rfl, x, rfl⟩))
          refine wp_region_more (by kernel_rfl) (by kernel_rfl) ?_
          repeat (go_big_quiet_step ((first | (go_at_call 26; exact (key_any _ _ _ (by assumption) _).inside) | (go_at_call 27; exact (rkey_any _ _ _ (by assumption) _).inside))))
          refine wpQuiet_nil ?_
          rintro _ ⟨z, rfl⟩
          go_wp2_with (first | (go_at_call 27; refine (rkey_any _ _ _ (by assumption) _).mono ?_; rintro e w' ⟨rfl, x, rfl⟩) | (go_at_call 24; refine (rright_any _ _ _ _).mono ?_; rintro e w' ⟨rfl, x, rfl⟩) | (go_at_call 13; refine (live1_any _).mono ?_; rintro e w' ⟨rfl, x, rfl⟩))
          refine wp_region_more (by kernel_rfl) (by kernel_rfl) ?_
          repeat (go_big_quiet_step ((first | (go_at_call 19; exact (rsame_any _ _ _ _ _ _ _).inside) | (go_at_call 28; exact (Gives.of_grew (texts_any _ _ (by assumption) _)).inside) | (go_at_call 17; exact (rorder_any _ _ _ _ _ _ (by unfold maxLen; omega) _).inside) | (go_at_call 13; exact (live1_any _).inside))))
          refine wpQuiet_nil ?_
          rintro _ ⟨z, rfl⟩
          go_wp2_with (first | (go_at_call 12; refine (long_any _ _ _ _).mono ?_; rintro e w' ⟨rfl, x, rfl⟩) | (go_at_call 13; refine (live1_any _).mono ?_; rintro e w' ⟨rfl, x, rfl⟩))
          go_ret
          exact ⟨rfl, by (show Grew _ _; repeat (first | exact Grew.refl _ | refine Grew.alloc ?_ _ | refine Grew.drew ?_ | refine Grew.more ?_ _))⟩
      · have r2 : rightV k i s = false ∨ rightV k i s = true ∧ rightV k' i' s' = false := by
          cases e1 : rightV k i s
          · exact Or.inl rfl
          · cases e2 : rightV k' i' s'
            · exact Or.inr ⟨rfl, rfl⟩
            · exact absurd ⟨e1, e2⟩ r
        rcases r2 with r2 | ⟨r2, r3⟩
        · go_enter Try.func5, Try.ntmps5
          go_wp2_with (first | (go_at_call 12; refine (long_any _ _ _ _).mono ?_; rintro e w' ⟨rfl, x, rfl⟩) | (go_at_call 13; refine (live1_any _).mono ?_; rintro e w' ⟨rfl, x, rfl⟩))
          refine wp_region_more (by kernel_rfl) (by kernel_rfl) ?_
          repeat (go_big_quiet_step ((first | (go_at_call 26; exact (key_any _ _ _ (by assumption) _).inside) | (go_at_call 27; exact (rkey_any _ _ _ (by assumption) _).inside))))
          refine wpQuiet_nil ?_
          rintro _ ⟨z, rfl⟩
          go_wp2_with (first | (go_at_call 27; refine (rkey_any _ _ _ (by assumption) _).mono ?_; rintro e w' ⟨rfl, x, rfl⟩) | (go_at_call 24; refine (rright_any _ _ _ _).mono ?_; rintro e w' ⟨rfl, x, rfl⟩) | (go_at_call 13; refine (live1_any _).mono ?_; rintro e w' ⟨rfl, x, rfl⟩))
          all_goals
            go_ret
            exact ⟨rfl, by (show Grew _ _; repeat (first | exact Grew.refl _ | refine Grew.alloc ?_ _ | refine Grew.drew ?_ | refine Grew.more ?_ _))⟩
        · go_enter Try.func5, Try.ntmps5
          go_wp2_with (first | (go_at_call 12; refine (long_any _ _ _ _).mono ?_; rintro e w' ⟨rfl, x, rfl⟩) | (go_at_call 13; refine (live1_any _).mono ?_; rintro e w' ⟨rfl, x, rfl⟩))
          refine wp_region_more (by kernel_rfl) (by kernel_rfl) ?_
          repeat (go_big_quiet_step ((first | (go_at_call 26; exact (key_any _ _ _ (by assumption) _).inside) | (go_at_call 27; exact (rkey_any _ _ _ (by assumption) _).inside))))
          refine wpQuiet_nil ?_
          rintro _ ⟨z, rfl⟩
          go_wp2_with (first | (go_at_call 27; refine (rkey_any _ _ _ (by assumption) _).mono ?_; rintro e w' ⟨rfl, x, rfl⟩) | (go_at_call 24; refine (rright_any _ _ _ _).mono ?_; rintro e w' ⟨rfl, x, rfl⟩) | (go_at_call 13; refine (live1_any _).mono ?_; rintro e w' ⟨rfl, x, rfl⟩))
          all_goals
            go_ret
            exact ⟨rfl, by (show Grew _ _; repeat (first | exact Grew.refl _ | refine Grew.alloc ?_ _ | refine Grew.drew ?_ | refine Grew.more ?_ _))⟩
end Go.Proofs.Ythmaablodgcgkaa
