/- Products of floats from +0 on; floats as whole numbers. Plain arithmetic over the given model of floats. -/
import Derived.Test.YtlnpiemnkpogfaaFloat3
namespace Go.Proofs.Ytlnpiemnkpogfaa

/-- 1 in the least unit. -/
def eT : Nat := 1074
theorem eT_eq : eT = 1074 := rfl
attribute [irreducible] eT
def unitT : Nat := 2 ^ eT
theorem unitT_eq : unitT = 2 ^ eT := rfl
attribute [irreducible] unitT
theorem unitT_pos : 0 < unitT := by rw [unitT_eq]; exact Nat.two_pow_pos _
/-- n over d, rounded up. -/
def ceilN (n d : Nat) : Nat := n / d + (n % d != 0).toNat
theorem ceilN_eq {n d k : Nat} (hd : 0 < d) (h1 : n ≤ k * d) (h2 : k * d < n + d) : ceilN n d = k := by
  unfold ceilN
  have e := Nat.div_add_mod n d
  have l := Nat.mod_lt n hd
  by_cases h0 : n % d = 0
  · rw [h0] at e ⊢
    have hb : ((0 : Nat) != 0).toNat = 0 := rfl
    rw [hb, Nat.add_zero]
    have e2 : n / d * d = n := by rw [Nat.mul_comm]; exact e
    have h3 : n / d ≤ k := Nat.le_of_mul_le_mul_right (by omega : n / d * d ≤ k * d) hd
    have h4 : k * d < (n / d + 1) * d := by rw [Nat.add_mul, Nat.one_mul]; omega
    have h5 : k < n / d + 1 := Nat.lt_of_mul_lt_mul_right h4
    omega
  · have hb : (n % d != 0).toNat = 1 := by
      have : (n % d != 0) = true := by rw [bne_iff_ne]; exact h0
      rw [this]; rfl
    rw [hb]
    have h4 : k * d < (n / d + 2) * d := by rw [Nat.add_mul, Nat.mul_comm (n / d)]; omega
    have h5 : k < n / d + 2 := Nat.lt_of_mul_lt_mul_right h4
    have h6 : n / d * d < k * d := by rw [Nat.mul_comm (n / d)]; omega
    have h7 : n / d < k := Nat.lt_of_mul_lt_mul_right h6
    omega
theorem ceilN_le (n d : Nat) (hd : 0 < d) : n ≤ ceilN n d * d ∧ ceilN n d * d < n + d := by
  unfold ceilN
  have e := Nat.div_add_mod n d
  have l := Nat.mod_lt n hd
  have e2 := Nat.mul_comm d (n / d)
  by_cases h0 : n % d = 0
  · have hb : (n % d != 0).toNat = 0 := by rw [h0]; rfl
    rw [hb, Nat.add_zero]
    omega
  · have hb : (n % d != 0).toNat = 1 := by
      have : (n % d != 0) = true := by rw [bne_iff_ne]; exact h0
      rw [this]; rfl
    rw [hb, Nat.add_mul, Nat.one_mul]
    omega
theorem ceilN_mono {n m d : Nat} (hd : 0 < d) (h : n ≤ m) : ceilN n d ≤ ceilN m d := by
  have h1 := ceilN_le n d hd
  have h2 := ceilN_le m d hd
  have h4 : ceilN n d * d < (ceilN m d + 1) * d := by rw [Nat.add_mul, Nat.one_mul]; omega
  have := Nat.lt_of_mul_lt_mul_right h4
  omega
theorem cut_up (n drop : Nat) : Ieee.Toward.up.cut false n drop = ceilN n (2 ^ drop) := by
  unfold Ieee.Toward.cut ceilN
  simp only [Nat.one_shiftLeft, Bool.not_false, Bool.true_and]
  by_cases h : drop ≤ n.log2 + 2
  · rw [Nat.min_eq_left h]
  · rw [Nat.min_eq_right (by omega)]
    have h1 : n < 2 ^ (n.log2 + 1) := Nat.lt_log2_self
    have h2 : 2 ^ (n.log2 + 2) = 2 * 2 ^ (n.log2 + 1) := by rw [Nat.pow_succ 2 (n.log2 + 1), Nat.mul_comm]
    have h3 : 2 ^ (n.log2 + 2) ≤ 2 ^ drop := Nat.pow_le_pow_right (by omega) (by omega)
    generalize 2 ^ (n.log2 + 2) = g at *
    generalize 2 ^ (n.log2 + 1) = p at *
    generalize 2 ^ drop = e at *
    rw [Nat.div_eq_of_lt (by omega : n < g), Nat.mod_eq_of_lt (by omega : n < g), Nat.div_eq_of_lt (by omega : n < e), Nat.mod_eq_of_lt (by omega : n < e)]
theorem cut_zero (neg : Bool) (n drop : Nat) : Ieee.Toward.zero.cut neg n drop = n / 2 ^ drop := by
  unfold Ieee.Toward.cut
  simp only [Nat.one_shiftLeft, Bool.toNat_false, Nat.add_zero]
  by_cases h : drop ≤ n.log2 + 2
  · rw [Nat.min_eq_left h]
  · rw [Nat.min_eq_right (by omega)]
    have h1 : n < 2 ^ (n.log2 + 1) := Nat.lt_log2_self
    have h2 : 2 ^ (n.log2 + 2) = 2 * 2 ^ (n.log2 + 1) := by rw [Nat.pow_succ 2 (n.log2 + 1), Nat.mul_comm]
    have h3 : 2 ^ (n.log2 + 2) ≤ 2 ^ drop := Nat.pow_le_pow_right (by omega) (by omega)
    generalize 2 ^ (n.log2 + 2) = g at *
    generalize 2 ^ (n.log2 + 1) = p at *
    generalize 2 ^ drop = e at *
    rw [Nat.div_eq_of_lt (by omega : n < g), Nat.div_eq_of_lt (by omega : n < e)]
/-- What a float is, as a whole number: rounded down, rounded up. -/
def floorR (r : Nat) : Nat := rungv r / unitT
def ceilR (r : Nat) : Nat := ceilN (rungv r) unitT
theorem scaled {m a : Nat} : (1074 ≤ a ∧ (-1074 + (a : Int)).toNat = a - 1074 ∧ (-(-1074 + (a : Int))).toNat = 0 ∧ m * 2 ^ a = m * 2 ^ (a - 1074) * unitT) ∨
    (a < 1074 ∧ (-1074 + (a : Int)).toNat = 0 ∧ (-(-1074 + (a : Int))).toNat = 1074 - a ∧ unitT = 2 ^ (1074 - a) * 2 ^ a) := by
  have hT := eT_eq
  rcases Nat.lt_or_ge a 1074 with h | h
  · right
    refine ⟨h, by omega, by omega, ?_⟩
    rw [unitT_eq, ← Nat.pow_add]
    congr 1
    omega
  · left
    refine ⟨h, by omega, by omega, ?_⟩
    rw [unitT_eq, Nat.mul_assoc, ← Nat.pow_add]
    congr 2
    omega
theorem ceil_read {m a r : Nat} (h : m * 2 ^ a = rungv r) : Ieee.Toward.up.cut false (m <<< (-1074 + (a : Int)).toNat) (-(-1074 + (a : Int))).toNat = ceilR r := by
  rw [cut_up, Nat.shiftLeft_eq]
  unfold ceilR
  rw [← h]
  rcases @scaled m a with ⟨h1, e1, e2, e3⟩ | ⟨h1, e1, e2, e3⟩
  · rw [e1, e2, e3, Nat.pow_zero]
    rw [ceilN_eq (k := m * 2 ^ (a - 1074)) (by omega) (by omega) (by omega)]
    exact (ceilN_eq unitT_pos (Nat.le_refl _) (by have := unitT_pos; omega)).symm
  · rw [e1, e2, Nat.pow_zero, Nat.mul_one]
    obtain ⟨b1, b2⟩ := ceilN_le m (2 ^ (1074 - a)) (Nat.two_pow_pos _)
    refine (ceilN_eq unitT_pos ?_ ?_).symm
    · rw [e3, ← Nat.mul_assoc]
      exact Nat.mul_le_mul_right _ b1
    · rw [e3, ← Nat.mul_assoc, ← Nat.add_mul]
      exact Nat.mul_lt_mul_of_pos_right b2 (Nat.two_pow_pos _)
theorem floor_read {m a r : Nat} (s : Bool) (h : m * 2 ^ a = rungv r) : Ieee.Toward.zero.cut s (m <<< (-1074 + (a : Int)).toNat) (-(-1074 + (a : Int))).toNat = floorR r := by
  rw [cut_zero, Nat.shiftLeft_eq]
  unfold floorR
  rw [← h]
  rcases @scaled m a with ⟨h1, e1, e2, e3⟩ | ⟨h1, e1, e2, e3⟩
  · rw [e1, e2, e3, Nat.pow_zero, Nat.div_one, Nat.mul_div_cancel _ unitT_pos]
  · rw [e1, e2, e3, Nat.pow_zero, Nat.mul_one, Nat.mul_div_mul_right _ _ (Nat.two_pow_pos _)]
/-- A whole number that a float has. -/
def Rep (k : Nat) : Prop := ∃ r, r < 9218868437227405312 ∧ rungv r = k * unitT
theorem rep_small {k : Nat} (h : k ≤ 9007199254740992) : Rep k := by
  have hT := eT_eq
  by_cases h0 : k = 0
  · subst h0
    exact ⟨0, by omega, (Nat.zero_mul _).symm ▸ (rfl : rungv 0 = 0)⟩
  · have key : ∀ (K e : Nat), 4503599627370496 ≤ K → K < 9007199254740992 → e ≤ 1075 → K * 2 ^ e = k * unitT → Rep k := by
      intro K e k1 k2 k3 k4
      refine ⟨(e + 1) * 4503599627370496 + (K - 4503599627370496), by omega, ?_⟩
      unfold rungv
      have d1 : ((e + 1) * 4503599627370496 + (K - 4503599627370496)) / 4503599627370496 = e + 1 := by omega
      have d2 : ((e + 1) * 4503599627370496 + (K - 4503599627370496)) % 4503599627370496 = K - 4503599627370496 := by omega
      have d3 : 4503599627370496 + (K - 4503599627370496) = K := by omega
      rw [if_neg (by omega), d1, d2, Nat.add_sub_cancel, ← k4, d3]
    by_cases h1 : k = 9007199254740992
    · refine key 4503599627370496 (eT + 1) (by omega) (by omega) (by omega) ?_
      rw [h1, unitT_eq, Nat.pow_succ 2 eT]
      generalize 2 ^ eT = z
      omega
    · have hl : k.log2 ≤ 52 := by
        have := (Nat.log2_lt h0).2 (show k < 2 ^ 53 by omega)
        omega
      have a1 : 2 ^ k.log2 ≤ k := Nat.log2_self_le h0
      have a2 : k < 2 ^ (k.log2 + 1) := Nat.lt_log2_self
      have a3 := Nat.mul_le_mul_right (2 ^ (52 - k.log2)) a1
      have a4 := Nat.mul_lt_mul_of_pos_right a2 (Nat.two_pow_pos (52 - k.log2))
      rw [← Nat.pow_add, show k.log2 + (52 - k.log2) = 52 by omega] at a3
      rw [← Nat.pow_add, show k.log2 + 1 + (52 - k.log2) = 53 by omega] at a4
      refine key (k * 2 ^ (52 - k.log2)) (eT - (52 - k.log2)) a3 a4 (by omega) ?_
      rw [unitT_eq, Nat.mul_assoc, ← Nat.pow_add]
      congr 2
      omega
theorem rep_round {k : Nat} (h : Rep k) : rndR k 0 < 9218868437227405312 ∧ rungv (rndR k 0) = k * unitT := by
  obtain ⟨r, h1, h2⟩ := h
  have hT := eT_eq
  have h3 : rndR k (-1074 + (eT : Int)) = r := rndR_exact (by rw [h2, unitT_eq]) h1
  rw [show (-1074 + (eT : Int)) = 0 by omega] at h3
  rw [h3]
  exact ⟨h1, h2⟩
/-- Each float from 2^52 on is whole; so what one is rounded to, down or up, a float has. -/
theorem rep_or {r : Nat} (h : r < 9218868437227405312) : (∃ k, Rep k ∧ rungv r = k * unitT) ∨ rungv r < 9007199254740992 * unitT := by
  have hT := eT_eq
  by_cases h1 : 1075 ≤ r / 4503599627370496
  · left
    refine ⟨(4503599627370496 + r % 4503599627370496) * 2 ^ (r / 4503599627370496 - 1 - 1074), ⟨r, h, ?_⟩, ?_⟩
    all_goals
      unfold rungv
      rw [if_neg (by omega), unitT_eq, Nat.mul_assoc, ← Nat.pow_add]
      congr 2
      omega
  · right
    unfold rungv
    split
    · have := unitT_pos
      omega
    · have e : 2 ^ (r / 4503599627370496 - 1) ≤ unitT := by
        rw [unitT_eq]
        exact Nat.pow_le_pow_right (by omega) (by omega)
      have h2 := Nat.mul_le_mul_left (4503599627370496 + r % 4503599627370496) e
      have h3 : (4503599627370496 + r % 4503599627370496) * unitT < 9007199254740992 * unitT := Nat.mul_lt_mul_of_pos_right (by omega) unitT_pos
      omega
theorem rep_ceil {r : Nat} (h : r < 9218868437227405312) : Rep (ceilR r) := by
  rcases rep_or h with ⟨k, h1, h2⟩ | h1
  · have : ceilR r = k := by
      unfold ceilR
      rw [h2]
      exact ceilN_eq unitT_pos (Nat.le_refl _) (by have := unitT_pos; omega)
    rw [this]; exact h1
  · refine rep_small ?_
    unfold ceilR
    obtain ⟨_, b2⟩ := ceilN_le (rungv r) unitT unitT_pos
    have h4 : ceilN (rungv r) unitT * unitT < (9007199254740992 + 1) * unitT := by rw [Nat.add_mul, Nat.one_mul]; omega
    have := Nat.lt_of_mul_lt_mul_right h4
    omega
theorem rep_floor {r : Nat} (h : r < 9218868437227405312) : Rep (floorR r) := by
  rcases rep_or h with ⟨k, h1, h2⟩ | h1
  · have : floorR r = k := by
      unfold floorR
      rw [h2, Nat.mul_div_cancel _ unitT_pos]
    rw [this]; exact h1
  · refine rep_small ?_
    unfold floorR
    have := (Nat.div_lt_iff_lt_mul unitT_pos).2 h1
    omega
theorem floor_le (r : Nat) : floorR r * unitT ≤ rungv r := Nat.div_mul_le_self _ _
theorem ceil_floor (r : Nat) : ceilR r = if floorR r * unitT < rungv r then floorR r + 1 else floorR r := by
  unfold ceilR floorR ceilN
  have e := Nat.div_add_mod (rungv r) unitT
  rw [Nat.mul_comm] at e
  by_cases h : rungv r % unitT = 0
  · rw [h] at e ⊢
    rw [if_neg (by omega)]
    rfl
  · rw [if_pos (by omega)]
    have : (rungv r % unitT != 0) = true := by rw [bne_iff_ne]; exact h
    rw [this]; rfl
/-- The rung of a product of two floats from +0 on. -/
def mulR (x y : Nat) : Nat :=
  match Ieee.double.read x, Ieee.double.read y with
  | .number _ m i, .number _ n j => rndR (m * n) (i + j)
  | _, _ => 0
theorem read_pos {x : Nat} (h : x < 9218868437227405312) : ∃ m a : Nat, Ieee.double.read x = .number false m (-1074 + (a : Int)) ∧ m * 2 ^ a = rungv x := by
  have h1 : rungB x = x := by unfold rungB; omega
  have h2 : negB x = false := by unfold negB; rw [beq_eq_false_iff_ne]; omega
  obtain ⟨m, a, e1, e2⟩ := read_fin x (by rw [h1]; exact h)
  rw [h2] at e1
  rw [h1] at e2
  exact ⟨m, a, e1, e2⟩
theorem mul_some {x y : Nat} (hx : x < 9218868437227405312) (hy : y < 9218868437227405312) : Ieee.double.mul x y = some (mulR x y) := by
  obtain ⟨m, a, e1, _⟩ := read_pos hx
  obtain ⟨n, b, e3, _⟩ := read_pos hy
  unfold Ieee.Format.mul mulR
  rw [e1, e3]
  simp only [Ieee.Datum.product, Option.map_some, Ieee.Format.write, nearest_word, word_val, Bool.xor_false, Bool.false_eq_true, if_false]
theorem mulR_mono {x y z t : Nat} (hx : x < 9218868437227405312) (hy : y < 9218868437227405312) (hz : z < 9218868437227405312) (ht : t < 9218868437227405312) (h : rungv x * rungv y ≤ rungv z * rungv t) : mulR x y ≤ mulR z t := by
  obtain ⟨m, a, e1, f1⟩ := read_pos hx
  obtain ⟨n, b, e2, f2⟩ := read_pos hy
  obtain ⟨k, c, e3, f3⟩ := read_pos hz
  obtain ⟨l, d, e4, f4⟩ := read_pos ht
  unfold mulR
  rw [e1, e2, e3, e4]
  simp only
  refine rndR_mono (-2148) (by omega) (by omega) ?_
  have g1 : (-1074 + (a : Int) + (-1074 + (b : Int)) - -2148).toNat = a + b := by omega
  have g2 : (-1074 + (c : Int) + (-1074 + (d : Int)) - -2148).toNat = c + d := by omega
  rw [g1, g2, Nat.pow_add, Nat.pow_add]
  have r1 : m * n * (2 ^ a * 2 ^ b) = m * 2 ^ a * (n * 2 ^ b) := by simp only [Nat.mul_assoc, Nat.mul_left_comm]
  have r2 : k * l * (2 ^ c * 2 ^ d) = k * 2 ^ c * (l * 2 ^ d) := by simp only [Nat.mul_assoc, Nat.mul_left_comm]
  rw [r1, r2, f1, f2, f3, f4]
  exact h
theorem one_val : rungv 4607182418800017408 = unitT := by
  have hT := eT_eq
  obtain ⟨c, hc⟩ : ∃ c, eT = 52 + c := ⟨1022, by omega⟩
  unfold rungv
  rw [if_neg (by omega), unitT_eq, show 4607182418800017408 / 4503599627370496 - 1 = c by omega, show 4503599627370496 + 4607182418800017408 % 4503599627370496 = 2 ^ 52 by decide, ← Nat.pow_add, hc]
/-- Times 1 it stays; times less it is no more. -/
theorem mulR_le {x y : Nat} (hx : x < 9218868437227405312) (hy : y ≤ 4607182418800017408) : mulR x y ≤ x := by
  obtain ⟨m, a, e1, f1⟩ := read_pos hx
  obtain ⟨n, b, e2, f2⟩ := read_pos (show y < 9218868437227405312 by omega)
  have h1 := rungv_le hy
  rw [one_val] at h1
  have h2 : rndR m (-1074 + (a : Int)) = x := rndR_exact f1 hx
  have hT := eT_eq
  have key : rndR (m * n) (-1074 + (a : Int) + (-1074 + (b : Int))) ≤ rndR m (-1074 + (a : Int)) := by
    refine rndR_mono (-2148) (by omega) (by omega) ?_
    have g1 : (-1074 + (a : Int) + (-1074 + (b : Int)) - -2148).toNat = a + b := by omega
    have g2 : (-1074 + (a : Int) - -2148).toNat = a + eT := by omega
    rw [g1, g2, Nat.pow_add, Nat.pow_add, ← unitT_eq]
    have r1 : m * n * (2 ^ a * 2 ^ b) = m * 2 ^ a * (n * 2 ^ b) := by simp only [Nat.mul_assoc, Nat.mul_left_comm]
    rw [r1, ← Nat.mul_assoc m]
    exact Nat.mul_le_mul_left _ (by rw [f2]; exact h1)
  unfold mulR
  rw [e1, e2]
  exact Nat.le_trans key (Nat.le_of_eq h2)
theorem mulR_comm (x y : Nat) : mulR x y = mulR y x := by
  unfold mulR
  cases Ieee.double.read x <;> cases Ieee.double.read y <;> simp [Nat.mul_comm, Int.add_comm]
end Go.Proofs.Ytlnpiemnkpogfaa
