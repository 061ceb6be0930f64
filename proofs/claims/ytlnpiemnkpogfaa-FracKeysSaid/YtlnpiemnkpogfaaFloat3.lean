/- Quotients of floats that come of integers. Plain arithmetic over the given model of floats. -/
import Derived.Test.YtlnpiemnkpogfaaFloat2
import GoSem.Core.Float
namespace Go.Proofs.Ytlnpiemnkpogfaa

theorem rndR_small {m : Nat} (h : m ≤ 18446744073709551616) : rndR m 0 < 9218868437227405312 := by
  unfold rndR
  split
  · omega
  · rename_i h0
    have hl : m.log2 ≤ 64 := by
      have h1 := Nat.log2_self_le h0
      have h2 : 2 ^ m.log2 < 2 ^ 65 := by omega
      have := (Nat.pow_lt_pow_iff_right (by omega : 1 < 2)).1 h2
      omega
    have hk := kept_lt m 0
    have hL : (lastP m 0 + 1074).toNat ≤ 1086 := by unfold lastP; omega
    omega
theorem rndR_some {m : Nat} (h0 : m ≠ 0) : 0 < rndR m 0 := by
  unfold rndR
  rw [if_neg h0]
  have hL : -1074 < lastP m 0 := by unfold lastP; omega
  have hk := kept_ge h0 hL
  omega
/-- What a word says of its sign and rung. -/
theorem word_read {s : Bool} {r : Nat} (h : r < 9218868437227405312) : negB (Ieee.double.word s r) = s ∧ rungB (Ieee.double.word s r) = r := by
  rw [word_val]
  unfold negB rungB
  cases s
  · simp only [Bool.false_eq_true, if_false]
    constructor
    · rw [beq_eq_false_iff_ne]; omega
    · omega
  · simp only [if_true]
    constructor
    · rw [beq_iff_eq]; omega
    · omega
theorem read_word {s : Bool} {r : Nat} (h : r < 9218868437227405312) : ∃ (m : Nat) (p : Int), Ieee.double.read (Ieee.double.word s r) = .number s m p ∧ (m = 0 ↔ r = 0) := by
  obtain ⟨h1, h2⟩ := word_read (s := s) h
  obtain ⟨m, a, e1, e2⟩ := read_fin (Ieee.double.word s r) (by rw [h2]; exact h)
  rw [h1] at e1
  refine ⟨m, _, e1, ?_⟩
  rw [h2] at e2
  constructor
  · rintro rfl
    rw [Nat.zero_mul] at e2
    exact rungv_inj (by rw [← e2]; rfl)
  · rintro rfl
    have h0 : rungv 0 = 0 := rfl
    rw [h0] at e2
    have hp := Nat.two_pow_pos a
    rcases Nat.mul_eq_zero.1 e2 with h | h
    · exact h
    · omega
theorem clean_neg {r : Nat} (h : r ≤ 9218868437227405312) : cleanB (9223372036854775808 + r) = 0 := by
  unfold cleanB
  have : (9223372036854775808 + r) % 9223372036854775808 = r := by omega
  rw [this, if_neg (by omega), if_pos (by omega)]
theorem clean_word (s : Bool) (r : Nat) (h : r ≤ 9218868437227405312) : cleanB (Ieee.double.word s r) = if s then 0 else if 4607182418800017408 ≤ r then 4607182418800017408 else r := by
  rw [word_val]
  cases s
  · simp only [Bool.false_eq_true, if_false]
    unfold cleanB
    have : r % 9223372036854775808 = r := by omega
    rw [this, if_neg (by omega)]
    by_cases h0 : r = 0
    · subst h0; rfl
    · rw [if_neg (by omega)]
  · simp only [if_true]
    exact clean_neg h
/-- The float of an integer. -/
def intB (n : Int) : Nat := Ieee.double.word (decide (n < 0)) (rndR n.natAbs 0)
theorem intB_lt (n : Int) : intB n < 18446744073709551616 := by
  unfold intB
  have := rndR_le n.natAbs 0
  rw [word_val]
  split <;> omega
theorem intB_read (n : Int) (h : n.natAbs ≤ 18446744073709551616) : ∃ (m : Nat) (p : Int), Ieee.double.read (intB n) = .number (decide (n < 0)) m p ∧ (m = 0 ↔ n = 0) := by
  obtain ⟨m, p, h1, h2⟩ := read_word (s := decide (n < 0)) (rndR_small h)
  refine ⟨m, p, h1, ?_⟩
  rw [h2]
  constructor
  · intro h0
    by_cases hz : n.natAbs = 0
    · omega
    · have := rndR_some hz; omega
  · rintro rfl
    rfl
/-- The quotient of two integers as floats, made a share. -/
def ofB (a b : Int) : Nat := if b = 0 then (if a < 0 then 0 else 4607182418800017408) else cleanB ((Ieee.double.div (intB a) (intB b)).getD 0)
theorem div_some (a b : Int) (ha : a.natAbs ≤ 18446744073709551616) (hb : b.natAbs ≤ 18446744073709551616) (h : b ≠ 0) :
    ∃ r, r ≤ 9218868437227405312 ∧ (a = 0 → r = 0) ∧ Ieee.double.div (intB a) (intB b) = some (Ieee.double.word (decide (a < 0) ^^ decide (b < 0)) r) := by
  obtain ⟨m, i, h1, h2⟩ := intB_read a ha
  obtain ⟨n, j, h3, h4⟩ := intB_read b hb
  have hn : n ≠ 0 := fun h0 => h (h4.1 h0)
  unfold Ieee.Format.div
  rw [h1, h3]
  unfold Ieee.Datum.quotient
  simp only [if_neg hn, Option.map_some, Ieee.Format.write, nearest_word]
  refine ⟨_, rndR_le _ _, ?_, rfl⟩
  intro ha0
  have hm := h2.2 ha0
  rw [hm, Nat.zero_shiftLeft, Nat.zero_div, Nat.zero_mod]
  rfl
theorem div_inf (a : Int) (ha : a.natAbs ≤ 18446744073709551616) (h : a ≠ 0) : Ieee.double.div (intB a) (intB 0) = some (Ieee.double.word (decide (a < 0)) 9218868437227405312) := by
  obtain ⟨m, i, h1, h2⟩ := intB_read a ha
  have hm : m ≠ 0 := fun h0 => h (h2.1 h0)
  obtain ⟨n, j, h3, h4⟩ := intB_read 0 (by decide)
  have hn : n = 0 := h4.2 rfl
  subst hn
  unfold Ieee.Format.div
  rw [h1, h3]
  unfold Ieee.Datum.quotient
  simp only [if_true, if_neg hm, Option.map_some, Ieee.Format.write, dInf]
  simp
theorem div_nan : Ieee.double.div (intB 0) (intB 0) = none := by
  obtain ⟨n, j, h3, h4⟩ := intB_read 0 (by decide)
  have hn : n = 0 := h4.2 rfl
  subst hn
  unfold Ieee.Format.div
  rw [h3]
  unfold Ieee.Datum.quotient
  simp
theorem ofB_zero {a b : Int} (ha : a.natAbs ≤ 18446744073709551616) (hb : b.natAbs ≤ 18446744073709551616) (h : b ≠ 0) (h' : a = 0 ∨ (a < 0 ∧ 0 < b) ∨ (0 < a ∧ b < 0)) : ofB a b = 0 := by
  obtain ⟨r, h1, h2, h3⟩ := div_some a b ha hb h
  unfold ofB
  rw [if_neg h, h3, Option.getD_some, clean_word _ _ h1]
  rcases h' with h0 | ⟨h4, h5⟩ | ⟨h4, h5⟩
  · rw [h2 h0]
    split <;> rfl
  · have e1 : decide (a < 0) = true := decide_eq_true h4
    have e2 : decide (b < 0) = false := decide_eq_false (by omega)
    rw [e1, e2]; rfl
  · have e1 : decide (a < 0) = false := decide_eq_false (by omega)
    have e2 : decide (b < 0) = true := decide_eq_true h5
    rw [e1, e2]; rfl
theorem ofB_le (a b : Int) : ofB a b ≤ 4607182418800017408 := by
  unfold ofB
  split
  · split <;> omega
  · exact cleanB_le _
end Go.Proofs.Ytlnpiemnkpogfaa
