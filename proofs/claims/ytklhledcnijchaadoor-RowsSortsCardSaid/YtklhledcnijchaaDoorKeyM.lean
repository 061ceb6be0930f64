/- Layer 4: rows of right values have the same key just if they are the same. Condition: numbers of 64 bits. -/
import Derived.Test.YtklhledcnijchaaDoorRKey
import Derived.Test.YtklhledcnijchaaDoorKey2W
import Derived.Test.YtklhledcnijchaaDoorRight
namespace Go.Proofs.YtklhledcnijchaaDoor
open Go.RowKit

theorem u8_of {n : Nat} (h : n < 256) : (UInt8.ofNat n).toNat = n := by
  show n % 256 = n
  omega
/-- What decimal digits say. -/
def decVal (l : List UInt8) : Nat := l.foldl (fun a b => a * 10 + (b.toNat - 48)) 0
theorem decVal_dec (u : Nat) : decVal (Lib.decDigits u) = u := by
  induction u using Nat.strongRecOn with
  | _ u ih =>
    rw [Lib.decDigits]
    by_cases h : u < 10
    · rw [dif_pos h]
      show 0 * 10 + ((UInt8.ofNat (48 + u)).toNat - 48) = u
      rw [u8_of (by omega)]
      omega
    · rw [dif_neg h]
      have h1 := ih (u / 10) (by omega)
      unfold decVal at h1 ⊢
      rw [List.foldl_append, h1]
      show u / 10 * 10 + ((UInt8.ofNat (48 + u % 10)).toNat - 48) = u
      rw [u8_of (by omega)]
      omega
theorem dec_colon (u : Nat) : ∀ b ∈ Lib.decDigits u, b ≠ 58 := by
  induction u using Nat.strongRecOn with
  | _ u ih =>
    rw [Lib.decDigits]
    by_cases h : u < 10
    · rw [dif_pos h]
      intro b hb e
      simp only [List.mem_cons, List.not_mem_nil, or_false] at hb
      have h2 := congrArg UInt8.toNat (hb.symm.trans e)
      rw [u8_of (by omega)] at h2
      have h3 : (58 : UInt8).toNat = 58 := rfl
      omega
    · rw [dif_neg h]
      intro b hb e
      rcases List.mem_append.1 hb with hb | hb
      · exact ih (u / 10) (by omega) b hb e
      · simp only [List.mem_cons, List.not_mem_nil, or_false] at hb
        have h2 := congrArg UInt8.toNat (hb.symm.trans e)
        rw [u8_of (by omega)] at h2
        have h3 : (58 : UInt8).toNat = 58 := rfl
        omega
theorem dec_one {u v : Nat} (h : Lib.decDigits u = Lib.decDigits v) : u = v := by
  rw [← decVal_dec u, ← decVal_dec v, h]
theorem colon_split {c : UInt8} : ∀ (x y r s : List UInt8), (∀ b ∈ x, b ≠ c) → (∀ b ∈ y, b ≠ c) → x ++ c :: r = y ++ c :: s → x = y ∧ r = s
  | [], [], _, _, _, _, h => ⟨rfl, by simpa using h⟩
  | [], y :: _, _, _, _, hy, h => by
    injection h with h1 _
    exact absurd h1.symm (hy y (List.mem_cons_self ..))
  | x :: _, [], _, _, hx, _, h => by
    injection h with h1 _
    exact absurd h1 (hx x (List.mem_cons_self ..))
  | x :: xs, y :: ys, r, s, hx, hy, h => by
    injection h with h1 h2
    obtain ⟨e1, e2⟩ := colon_split xs ys r s (fun b hb => hx b (List.mem_cons_of_mem _ hb)) (fun b hb => hy b (List.mem_cons_of_mem _ hb)) h2
    exact ⟨by rw [h1, e1], e2⟩
/-- Bytes as one number, the highest first. -/
def valB : List UInt8 → Nat
  | [] => 0
  | b :: l => b.toNat * 256 ^ l.length + valB l
theorem key_top (n : Int) : keyN n / 256 ^ 8 = 0 := by
  have h0 : 0 ≤ keyN n := by unfold keyN; omega
  have h1 : keyN n < 256 ^ 8 := by unfold keyN; omega
  exact Int.ediv_eq_zero_of_lt h0 h1
theorem valB_key (n : Int) : (valB (keyBytes n) : Int) = keyN n := by
  have e0 : keyN n / 256 ^ 0 = keyN n := by rw [Int.pow_zero, Int.ediv_one]
  have d0 := key_div n 0
  have d1 := key_div n 1
  have d2 := key_div n 2
  have d3 := key_div n 3
  have d4 := key_div n 4
  have d5 := key_div n 5
  have d6 := key_div n 6
  have d7 := key_div n 7
  have e8 := key_top n
  have u0 := keyU_toNat n 7
  have u1 := keyU_toNat n 6
  have u2 := keyU_toNat n 5
  have u3 := keyU_toNat n 4
  have u4 := keyU_toNat n 3
  have u5 := keyU_toNat n 2
  have u6 := keyU_toNat n 1
  have u7 := keyU_toNat n 0
  have hk : keyBytes n = [keyU n 0, keyU n 1, keyU n 2, keyU n 3, keyU n 4, keyU n 5, keyU n 6, keyU n 7] := rfl
  rw [hk]
  simp only [valB, List.length_cons, List.length_nil]
  rw [e0] at d0
  simp only [Nat.zero_add, Nat.reduceAdd, Nat.reduceSub, Nat.sub_self, e0] at d0 d1 d2 d3 d4 d5 d6 d7 u0 u1 u2 u3 u4 u5 u6 u7
  generalize keyN n / 256 ^ 1 = y1 at *
  generalize keyN n / 256 ^ 2 = y2 at *
  generalize keyN n / 256 ^ 3 = y3 at *
  generalize keyN n / 256 ^ 4 = y4 at *
  generalize keyN n / 256 ^ 5 = y5 at *
  generalize keyN n / 256 ^ 6 = y6 at *
  generalize keyN n / 256 ^ 7 = y7 at *
  generalize keyN n / 256 ^ 8 = y8 at *
  generalize keyN n = y0 at *
  simp only [Nat.reducePow]
  omega
theorem keyBytes_one {i i' : Int} (h1 : -9223372036854775808 ≤ i) (h2 : i < 9223372036854775808) (h3 : -9223372036854775808 ≤ i') (h4 : i' < 9223372036854775808) (h : keyBytes i = keyBytes i') : i = i' := by
  have h5 : keyN i = keyN i' := by rw [← valB_key, ← valB_key, h]
  unfold keyN at h5
  omega
theorem empty_data {s : ByteArray} (h : s.toList.isEmpty = true) : s.data.toList = [] := by
  rw [← ByteArray.toList_eq s]
  simpa using h
theorem right_cases {k i : Int} {s : ByteArray} (h : rightV k i s = true) : (k = 0 ∧ i = 0 ∧ s.data.toList = []) ∨ (k = 1 ∧ s.data.toList = []) ∨ (k = 2 ∧ i = 0) := by
  unfold rightV at h
  rw [Bool.or_eq_true, Bool.or_eq_true] at h
  rcases h with (h | h) | h
  · rw [Bool.and_eq_true, Bool.and_eq_true, beq_iff_eq, beq_iff_eq] at h
    exact Or.inl ⟨h.1, h.2.1, empty_data h.2.2⟩
  · rw [Bool.and_eq_true, beq_iff_eq] at h
    exact Or.inr (Or.inl ⟨h.1, empty_data h.2⟩)
  · rw [Bool.and_eq_true, Bool.and_eq_true, beq_iff_eq, beq_iff_eq] at h
    exact Or.inr (Or.inr ⟨h.1, h.2.1⟩)
def keyL (k i : Int) (s : ByteArray) : List UInt8 := if k = 0 then [110] else if k = 1 then 105 :: keyBytes i else if k = 2 then 116 :: s.data.toList else []
theorem keyT_data (k i : Int) (s : ByteArray) : (keyT k i s).data.toList = keyL k i s := by
  unfold keyT keyL
  by_cases h0 : k = 0
  · rw [if_pos h0, if_pos h0]
  · rw [if_neg h0, if_neg h0]
    by_cases h1 : k = 1
    · rw [if_pos h1, if_pos h1]
      simp
    · rw [if_neg h1, if_neg h1]
      by_cases h2 : k = 2
      · rw [if_pos h2, if_pos h2]
        simp
      · rw [if_neg h2, if_neg h2]
theorem data_one {s s' : ByteArray} (h : s.data.toList = s'.data.toList) : s = s' := by
  apply ByteArray.ext
  exact Array.toList_inj.1 h
theorem key_one {x y : Vl} (hx : VlOk x) (hy : VlOk y) (rx : rightV x.k x.i x.s = true) (ry : rightV y.k y.i y.s = true) (h : (keyT x.k x.i x.s).data.toList = (keyT y.k y.i y.s).data.toList) : x = y := by
  obtain ⟨k, i, s⟩ := x
  obtain ⟨k', i', s'⟩ := y
  obtain ⟨_, hi, _⟩ := hx
  obtain ⟨_, hi', _⟩ := hy
  simp only at rx ry h hi hi'
  rw [keyT_data, keyT_data] at h
  obtain ⟨i1, i2⟩ := wf_i64 hi
  obtain ⟨i3, i4⟩ := wf_i64 hi'
  unfold keyL at h
  rcases right_cases rx with ⟨rfl, rfl, e1⟩ | ⟨rfl, e1⟩ | ⟨rfl, rfl⟩ <;> rcases right_cases ry with ⟨rfl, rfl, e2⟩ | ⟨rfl, e2⟩ | ⟨rfl, rfl⟩
  · rw [data_one (e1.trans e2.symm)]
  · rw [if_pos rfl, if_neg (by decide), if_pos rfl] at h
    injection h with h _
    exact absurd h (by decide)
  · rw [if_pos rfl, if_neg (by decide), if_neg (by decide), if_pos rfl] at h
    injection h with h _
    exact absurd h (by decide)
  · rw [if_pos rfl, if_neg (by decide), if_pos rfl] at h
    injection h with h _
    exact absurd h (by decide)
  · rw [if_neg (by decide), if_pos rfl, if_neg (by decide), if_pos rfl] at h
    injection h with _ h
    rw [data_one (e1.trans e2.symm), keyBytes_one i1 (by omega) i3 (by omega) h]
  · rw [if_neg (by decide), if_pos rfl, if_neg (by decide), if_neg (by decide), if_pos rfl] at h
    injection h with h _
    exact absurd h (by decide)
  · rw [if_pos rfl, if_neg (by decide), if_neg (by decide), if_pos rfl] at h
    injection h with h _
    exact absurd h (by decide)
  · rw [if_neg (by decide), if_neg (by decide), if_pos rfl, if_neg (by decide), if_pos rfl] at h
    injection h with h _
    exact absurd h (by decide)
  · rw [if_neg (by decide), if_neg (by decide), if_pos rfl, if_neg (by decide), if_neg (by decide), if_pos rfl] at h
    injection h with _ h
    rw [data_one h]
def rightR (l : List Vl) : Prop := ∀ v ∈ l, rightV v.k v.i v.s = true
theorem keyRow_one : ∀ (a b : List Vl), (∀ v ∈ a, VlOk v) → (∀ v ∈ b, VlOk v) → rightR a → rightR b → keyRowL a = keyRowL b → a = b
  | [], [], _, _, _, _, _ => rfl
  | [], y :: b, _, _, _, _, h => by
    have e1 : keyRowL (y :: b) = keyV y ++ keyRowL b := by simp [keyRowL]
    rw [e1] at h
    have h2 := congrArg List.length h
    simp [keyRowL, keyV] at h2
  | x :: a, [], _, _, _, _, h => by
    have e1 : keyRowL (x :: a) = keyV x ++ keyRowL a := by simp [keyRowL]
    rw [e1] at h
    have h2 := congrArg List.length h
    simp [keyRowL, keyV] at h2
  | x :: a, y :: b, hx, hy, rx, ry, h => by
    have e1 : keyRowL (x :: a) = keyV x ++ keyRowL a := by simp [keyRowL]
    have e2 : keyRowL (y :: b) = keyV y ++ keyRowL b := by simp [keyRowL]
    rw [e1, e2] at h
    unfold keyV at h
    rw [List.append_assoc, List.append_assoc, Lib.itoa_nonneg, Lib.itoa_nonneg, List.cons_append, List.cons_append] at h
    obtain ⟨h1, h2⟩ := colon_split _ _ _ _ (dec_colon _) (dec_colon _) h
    have h3 := dec_one h1
    have h4 : (keyT x.k x.i x.s).data.toList.length = (keyT y.k y.i y.s).data.toList.length := by rw [Array.length_toList, Array.length_toList]; exact h3
    obtain ⟨h5, h6⟩ := List.append_inj h2 h4
    rw [key_one (hx x (List.mem_cons_self ..)) (hy y (List.mem_cons_self ..)) (rx x (List.mem_cons_self ..)) (ry y (List.mem_cons_self ..)) h5, keyRow_one a b (fun v hv => hx v (List.mem_cons_of_mem _ hv)) (fun v hv => hy v (List.mem_cons_of_mem _ hv)) (fun v hv => rx v (List.mem_cons_of_mem _ hv)) (fun v hv => ry v (List.mem_cons_of_mem _ hv)) h6]
end Go.Proofs.YtklhledcnijchaaDoor
