/- Sums and differences of floats. Plain arithmetic over the given model of floats. -/
import Derived.Test.YtlnpiemnkpogfaaFloat4
namespace Go.Proofs.Ytlnpiemnkpogfaa

theorem read_finite {x : Nat} (h : rungB x < 9218868437227405312) : ∃ s m i, Ieee.double.read x = .number s m i := by
  obtain ⟨m, a, e, _⟩ := read_fin x h
  exact ⟨_, _, _, e⟩
theorem add_fin {x y : Nat} (hx : rungB x < 9218868437227405312) (hy : rungB y < 9218868437227405312) : ∃ r, Ieee.double.add x y = some r := by
  obtain ⟨s, m, i, e1⟩ := read_finite hx
  obtain ⟨t, n, j, e2⟩ := read_finite hy
  unfold Ieee.Format.add
  rw [e1, e2]
  exact ⟨_, rfl⟩
theorem sub_fin {x y : Nat} (hx : rungB x < 9218868437227405312) (hy : rungB y < 9218868437227405312) : ∃ r, Ieee.double.sub x y = some r := by
  obtain ⟨s, m, i, e1⟩ := read_finite hx
  obtain ⟨t, n, j, e2⟩ := read_finite hy
  unfold Ieee.Format.sub
  rw [e1, e2]
  exact ⟨_, rfl⟩
theorem some_lt {o : Option Ieee.Datum} {r : Nat} (h : o.map Ieee.double.write = some r) : r < 18446744073709551616 := by
  cases o with
  | none => cases h
  | some d =>
    injection h with h
    subst h
    unfold Ieee.Format.write
    cases d with
    | number s m p =>
      simp only [nearest_word, word_val]
      have := rndR_le m p
      split <;> omega
    | infinity s =>
      simp only [word_val, dInf]
      split <;> omega
    | nan s f =>
      simp only [word_val, dInf, dBin]
      split <;> omega
theorem add_lt {x y r : Nat} (h : Ieee.double.add x y = some r) : r < 18446744073709551616 := some_lt h
theorem sub_lt {x y r : Nat} (h : Ieee.double.sub x y = some r) : r < 18446744073709551616 := some_lt h
theorem add_comm (x y : Nat) : Ieee.double.add x y = Ieee.double.add y x := by
  unfold Ieee.Format.add
  congr 1
  cases Ieee.double.read x <;> cases Ieee.double.read y <;> simp [Ieee.Datum.sum]
  · rename_i s m i t n j
    rw [Int.min_comm i j, Int.add_comm (Ieee.signed s m _)]
    simp [Bool.and_comm]
  · rename_i s t
    by_cases h : s = t
    · simp [h]
    · rw [if_neg h, if_neg (fun e => h e.symm)]
theorem rung_pos {x : Nat} (h : x < 9218868437227405312) : rungB x = x := by unfold rungB; omega
theorem sg_total (s t : Bool) (m n a b : Nat) : ∃ c : Nat, (c = a ∨ c = b) ∧ c ≤ a ∧ c ≤ b ∧ min (-1074 + (a : Int)) (-1074 + (b : Int)) = -1074 + (c : Int) ∧
    (Ieee.signed s m (-1074 + (a : Int) - (-1074 + (c : Int))).toNat + Ieee.signed t n (-1074 + (b : Int) - (-1074 + (c : Int))).toNat) * (2 ^ c : Nat) = sgI s (m * 2 ^ a) + sgI t (n * 2 ^ b) := by
  rcases Nat.le_total a b with h | h
  · refine ⟨a, Or.inl rfl, Nat.le_refl _, h, by omega, ?_⟩
    have e1 : (-1074 + (a : Int) - (-1074 + (a : Int))).toNat = 0 := by omega
    have e2 : (-1074 + (b : Int) - (-1074 + (a : Int))).toNat = b - a := by omega
    rw [e1, e2, signed_sg, signed_sg, Int.add_mul, sgI_mul, sgI_mul, Nat.zero_add, Nat.sub_add_cancel h]
  · refine ⟨b, Or.inr rfl, h, Nat.le_refl _, by omega, ?_⟩
    have e1 : (-1074 + (a : Int) - (-1074 + (b : Int))).toNat = a - b := by omega
    have e2 : (-1074 + (b : Int) - (-1074 + (b : Int))).toNat = 0 := by omega
    rw [e1, e2, signed_sg, signed_sg, Int.add_mul, sgI_mul, sgI_mul, Nat.zero_add, Nat.sub_add_cancel h]
/-- 1 less a share is a share. -/
theorem sub_one {x : Nat} (hx : x ≤ 4607182418800017408) : ∃ r, Ieee.double.sub 4607182418800017408 x = some r ∧ r ≤ 4607182418800017408 := by
  obtain ⟨m, a, e1, f1⟩ := read_pos (show 4607182418800017408 < 9218868437227405312 by omega)
  obtain ⟨n, b, e2, f2⟩ := read_pos (show x < 9218868437227405312 by omega)
  have h1 := rungv_le hx
  unfold Ieee.Format.sub
  rw [e1, e2]
  obtain ⟨c, hc, c1, c2, c3, c4⟩ := sg_total false true m n a b
  simp only [Ieee.Datum.opposite, Bool.not_false, Ieee.Datum.sum, c3, Option.map_some, Ieee.Format.write, nearest_word]
  generalize Ieee.signed false m (-1074 + (a : Int) - (-1074 + (c : Int))).toNat + Ieee.signed true n (-1074 + (b : Int) - (-1074 + (c : Int))).toNat = T at *
  have hp : (0 : Int) < (2 ^ c : Nat) := by have := Nat.two_pow_pos c; omega
  rw [f1, f2] at c4
  unfold sgI at c4
  simp only [Bool.false_eq_true, if_false, if_true] at c4
  have hT : 0 ≤ T := by
    rcases (by omega : 0 ≤ T ∨ T + 1 ≤ 0) with h | h
    · exact h
    · have := Int.mul_le_mul_of_nonneg_right h (Int.le_of_lt hp)
      rw [Int.zero_mul, Int.add_mul, Int.one_mul] at this
      omega
  have hneg : (if T = 0 then false && true else decide (T < 0)) = false := by
    split
    · rfl
    · exact decide_eq_false (by omega)
  refine ⟨_, rfl, ?_⟩
  rw [hneg, word_val, if_neg (by decide)]
  have h2 : rndR m (-1074 + (a : Int)) = 4607182418800017408 := rndR_exact f1 (by omega)
  refine Nat.le_trans ?_ (Nat.le_of_eq h2)
  refine rndR_mono (-1074) (by omega) (by omega) ?_
  have g1 : (-1074 + (c : Int) - -1074).toNat = c := by omega
  have g2 : (-1074 + (a : Int) - -1074).toNat = a := by omega
  rw [g1, g2, f1]
  have g3 : ((T.natAbs * 2 ^ c : Nat) : Int) = T * (2 ^ c : Nat) := by
    rw [Int.natCast_mul, Int.natAbs_of_nonneg hT]
  omega
/-- Two shares together are a number. -/
theorem add_share {x y : Nat} (hx : x ≤ 4607182418800017408) (hy : y ≤ 4607182418800017408) : ∃ r, Ieee.double.add x y = some r ∧ r < 9218868437227405312 := by
  obtain ⟨m, a, e1, f1⟩ := read_pos (show x < 9218868437227405312 by omega)
  obtain ⟨n, b, e2, f2⟩ := read_pos (show y < 9218868437227405312 by omega)
  have h1 := rungv_le hx
  have h2 := rungv_le hy
  rw [one_val] at h1 h2
  unfold Ieee.Format.add
  rw [e1, e2]
  obtain ⟨c, hc, c1, c2, c3, c4⟩ := sg_total false false m n a b
  simp only [Ieee.Datum.sum, c3, Option.map_some, Ieee.Format.write, nearest_word]
  generalize Ieee.signed false m (-1074 + (a : Int) - (-1074 + (c : Int))).toNat + Ieee.signed false n (-1074 + (b : Int) - (-1074 + (c : Int))).toNat = T at *
  have hp : (0 : Int) < (2 ^ c : Nat) := by have := Nat.two_pow_pos c; omega
  rw [f1, f2] at c4
  unfold sgI at c4
  simp only [Bool.false_eq_true, if_false] at c4
  have hT : 0 ≤ T := by
    rcases (by omega : 0 ≤ T ∨ T + 1 ≤ 0) with h | h
    · exact h
    · have := Int.mul_le_mul_of_nonneg_right h (Int.le_of_lt hp)
      rw [Int.zero_mul, Int.add_mul, Int.one_mul] at this
      omega
  have hneg : (if T = 0 then false && false else decide (T < 0)) = false := by
    split
    · rfl
    · exact decide_eq_false (by omega)
  refine ⟨_, rfl, ?_⟩
  rw [hneg, word_val, if_neg (by decide)]
  have hT2 := eT_eq
  have h3 := rep_round (rep_small (show 2 ≤ 9007199254740992 by omega))
  refine Nat.lt_of_le_of_lt ?_ h3.1
  refine rndR_mono (-1074) (by omega) (by omega) ?_
  have g1 : (-1074 + (c : Int) - -1074).toNat = c := by omega
  have g2 : ((0 : Int) - -1074).toNat = eT := by omega
  rw [g1, g2, ← unitT_eq]
  have g3 : ((T.natAbs * 2 ^ c : Nat) : Int) = T * (2 ^ c : Nat) := by
    rw [Int.natCast_mul, Int.natAbs_of_nonneg hT]
  omega
end Go.Proofs.Ytlnpiemnkpogfaa
