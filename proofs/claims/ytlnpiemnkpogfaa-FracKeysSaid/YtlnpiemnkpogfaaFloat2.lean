/- To which float a number is rounded: never less of more; what a float has stays as it is. Plain arithmetic over the given model of floats. -/
import Derived.Test.YtlnpiemnkpogfaaFloat
namespace Go.Proofs.Ytlnpiemnkpogfaa

/-- n over d as a whole number: the nearest one, and between two the even one. -/
def halfEven (n d : Nat) : Nat := n / d + (d < 2 * (n % d) || (d == 2 * (n % d) && n / d % 2 == 1)).toNat
theorem halfEven_bounds (n d : Nat) : n / d ≤ halfEven n d ∧ halfEven n d ≤ n / d + 1 := by
  unfold halfEven
  have : ∀ b : Bool, b.toNat ≤ 1 := fun b => by cases b <;> decide
  have := this (d < 2 * (n % d) || (d == 2 * (n % d) && n / d % 2 == 1))
  omega
theorem halfEven_mono {n d n' d' : Nat} (hd : 0 < d) (hd' : 0 < d') (h : n * d' ≤ n' * d) : halfEven n d ≤ halfEven n' d' := by
  have e1 := Nat.div_add_mod n d
  have e2 := Nat.div_add_mod n' d'
  have l1 := Nat.mod_lt n hd
  have l2 := Nat.mod_lt n' hd'
  have hq : n / d ≤ n' / d' := by
    rw [Nat.le_div_iff_mul_le hd']
    have h1 : n / d * d * d' ≤ n * d' := Nat.mul_le_mul_right _ (Nat.div_mul_le_self n d)
    have h2 : n / d * d' * d ≤ n' * d := by rw [Nat.mul_right_comm]; omega
    exact Nat.le_of_mul_le_mul_right h2 hd
  have b1 := halfEven_bounds n d
  have b2 := halfEven_bounds n' d'
  rcases Nat.lt_or_eq_of_le hq with hq | hq
  · omega
  · unfold halfEven
    rw [← hq] at e2 ⊢
    generalize n / d = q at *
    generalize n % d = r at *
    generalize n' % d' = r' at *
    have hr : r * d' ≤ r' * d := by
      have h1 : n * d' = d * q * d' + r * d' := by rw [← e1, Nat.add_mul]
      have h2 : n' * d = d' * q * d + r' * d := by rw [← e2, Nat.add_mul]
      have h3 : d * q * d' = d' * q * d := by rw [Nat.mul_comm d q, Nat.mul_comm d' q, Nat.mul_right_comm]
      omega
    have key : ∀ c : Bool, ((d < 2 * r || (d == 2 * r && c)) = true) → ((d' < 2 * r' || (d' == 2 * r' && c)) = true) := by
      intro c hc
      simp only [Bool.or_eq_true, Bool.and_eq_true, decide_eq_true_eq, beq_iff_eq] at hc ⊢
      rcases hc with hc | ⟨hc, hc'⟩
      · left
        rcases Nat.lt_or_ge d' (2 * r') with h0 | h0
        · exact h0
        · exfalso
          have a1 : d * d' < 2 * r * d' := Nat.mul_lt_mul_of_pos_right hc hd'
          have a2 : 2 * r' * d ≤ d' * d := Nat.mul_le_mul_right d h0
          rw [Nat.mul_assoc] at a1 a2
          rw [Nat.mul_comm d' d] at a2
          omega
      · rcases Nat.lt_or_ge d' (2 * r') with h0 | h0
        · exact Or.inl h0
        · right
          refine ⟨?_, hc'⟩
          have a1 : d * d' = 2 * r * d' := by rw [hc]
          have a2 : 2 * r' * d ≤ d' * d := Nat.mul_le_mul_right d h0
          rw [Nat.mul_assoc] at a1 a2
          rw [Nat.mul_comm d' d] at a2
          have a3 : r' * d = r * d' := by omega
          have a4 : d' * d = 2 * r' * d := by rw [Nat.mul_assoc, a3, Nat.mul_comm d' d]; exact a1
          exact Nat.eq_of_mul_eq_mul_right hd a4
    have mono : ∀ a b : Bool, (a = true → b = true) → a.toNat ≤ b.toNat := fun a b h => by cases a <;> cases b <;> simp_all
    have := mono _ _ (key (q % 2 == 1))
    omega
theorem halfEven_exact (k d : Nat) (hd : 0 < d) : halfEven (k * d) d = k := by
  unfold halfEven
  rw [Nat.mul_mod_left, Nat.mul_div_cancel _ hd]
  have : (decide (d < 2 * 0) || (d == 2 * 0 && k % 2 == 1)) = false := by
    simp only [Nat.mul_zero, Nat.not_lt_zero, decide_false, Bool.false_or, Bool.and_eq_false_iff, beq_eq_false_iff_ne]
    left; omega
  rw [this]; rfl
theorem cut_even (neg : Bool) (n drop : Nat) : Ieee.Toward.even.cut neg n drop = halfEven n (2 ^ drop) := by
  unfold Ieee.Toward.cut halfEven
  simp only [Nat.one_shiftLeft]
  by_cases h : drop ≤ n.log2 + 2
  · rw [Nat.min_eq_left h]
  · rw [Nat.min_eq_right (by omega)]
    have h1 : n < 2 ^ (n.log2 + 1) := Nat.lt_log2_self
    have h2 : 2 ^ (n.log2 + 2) = 2 * 2 ^ (n.log2 + 1) := by rw [Nat.pow_succ 2 (n.log2 + 1), Nat.mul_comm]
    have h3 : 2 ^ (n.log2 + 2) ≤ 2 ^ drop := Nat.pow_le_pow_right (by omega) (by omega)
    generalize 2 ^ (n.log2 + 2) = g at *
    generalize 2 ^ (n.log2 + 1) = p at *
    generalize 2 ^ drop = e at *
    rw [Nat.div_eq_of_lt (by omega : n < g), Nat.mod_eq_of_lt (by omega : n < g), Nat.div_eq_of_lt (by omega : n < e), Nat.mod_eq_of_lt (by omega : n < e)]
    have a1 : decide (g < 2 * n) = false := by simp; omega
    have a2 : decide (e < 2 * n) = false := by simp; omega
    rw [a1, a2]
    simp

/-- The place of the last digit that is kept. -/
def lastP (mag : Nat) (place : Int) : Int := max (place + mag.log2 - 52) (-1074)
/-- The rung to which mag * 2^place is rounded. -/
def rndR (mag : Nat) (place : Int) : Nat :=
  if mag = 0 then 0 else
    min ((lastP mag place + 1074).toNat * 4503599627370496 + halfEven (mag * 2 ^ (place - lastP mag place).toNat) (2 ^ (lastP mag place - place).toNat)) 9218868437227405312
theorem nearest_word (neg : Bool) (mag : Nat) (place : Int) : Ieee.double.nearest neg mag place = Ieee.double.word neg (rndR mag place) := by
  unfold Ieee.Format.nearest rndR
  by_cases h : mag = 0
  · rw [if_pos h, if_pos h]
  · rw [if_neg h, if_neg h]
    simp only [dBin, dInf, dLeast, cut_even, Nat.shiftLeft_eq]
    rfl
theorem word_val (neg : Bool) (r : Nat) : Ieee.double.word neg r = if neg then 9223372036854775808 + r else r := by
  unfold Ieee.Format.word
  rw [dSign]
theorem rndR_le (mag : Nat) (place : Int) : rndR mag place ≤ 9218868437227405312 := by
  unfold rndR
  split
  · omega
  · exact Nat.min_le_right _ _

theorem log_le {mag : Nat} (h : mag ≠ 0) : 2 ^ mag.log2 ≤ mag := Nat.log2_self_le h
/-- What is kept has at most 53 digits, and just 53 unless it stands at the least place. -/
theorem kept_lt (mag : Nat) (place : Int) : halfEven (mag * 2 ^ (place - lastP mag place).toNat) (2 ^ (lastP mag place - place).toNat) ≤ 9007199254740992 := by
  have h1 : mag < 2 ^ (mag.log2 + 1) := Nat.lt_log2_self
  have h2 : place + mag.log2 - 52 ≤ lastP mag place := by unfold lastP; omega
  have b := (halfEven_bounds (mag * 2 ^ (place - lastP mag place).toNat) (2 ^ (lastP mag place - place).toNat)).2
  have h3 : mag * 2 ^ (place - lastP mag place).toNat < 9007199254740992 * 2 ^ (lastP mag place - place).toNat := by
    refine Nat.lt_of_lt_of_le (Nat.mul_lt_mul_of_pos_right h1 (Nat.two_pow_pos _)) ?_
    rw [show (9007199254740992 : Nat) = 2 ^ 53 by decide, ← Nat.pow_add, ← Nat.pow_add]
    exact Nat.pow_le_pow_right (by omega) (by omega)
  have h4 := (Nat.div_lt_iff_lt_mul (Nat.two_pow_pos (lastP mag place - place).toNat)).2 h3
  omega
theorem kept_ge {mag : Nat} {place : Int} (h0 : mag ≠ 0) (h : -1074 < lastP mag place) : 4503599627370496 ≤ halfEven (mag * 2 ^ (place - lastP mag place).toNat) (2 ^ (lastP mag place - place).toNat) := by
  have h1 := log_le h0
  have h2 : place + mag.log2 - 52 = lastP mag place := by unfold lastP at *; omega
  have b := (halfEven_bounds (mag * 2 ^ (place - lastP mag place).toNat) (2 ^ (lastP mag place - place).toNat)).1
  have h3 : 4503599627370496 * 2 ^ (lastP mag place - place).toNat ≤ mag * 2 ^ (place - lastP mag place).toNat := by
    refine Nat.le_trans ?_ (Nat.mul_le_mul_right _ h1)
    rw [show (4503599627370496 : Nat) = 2 ^ 52 by decide, ← Nat.pow_add, ← Nat.pow_add]
    exact Nat.pow_le_pow_right (by omega) (by omega)
  have h4 := (Nat.le_div_iff_mul_le (Nat.two_pow_pos (lastP mag place - place).toNat)).2 h3
  omega
theorem min_up {A B a b c : Nat} (h1 : A = B) (h2 : a ≤ b) : min (A * 4503599627370496 + a) c ≤ min (B * 4503599627370496 + b) c := by
  subst h1
  omega
theorem min_over {A B a b c : Nat} (h1 : A < B) (h2 : a ≤ 9007199254740992) (h3 : 4503599627370496 ≤ b) : min (A * 4503599627370496 + a) c ≤ min (B * 4503599627370496 + b) c := by
  omega
/-- Never less of more. -/
theorem rndR_mono {m n : Nat} {p q : Int} (U : Int) (hp : U ≤ p) (hq : U ≤ q) (h : m * 2 ^ (p - U).toNat ≤ n * 2 ^ (q - U).toNat) : rndR m p ≤ rndR n q := by
  by_cases hm : m = 0
  · unfold rndR; rw [if_pos hm]; omega
  have hn : n ≠ 0 := by
    rintro rfl
    rw [Nat.zero_mul] at h
    have := Nat.mul_pos (by omega : 0 < m) (Nat.two_pow_pos (p - U).toNat)
    omega
  have hlog : p + m.log2 ≤ q + n.log2 := by
    have h1 : 2 ^ (m.log2 + (p - U).toNat) ≤ m * 2 ^ (p - U).toNat := by rw [Nat.pow_add]; exact Nat.mul_le_mul_right _ (log_le hm)
    have h2 : n * 2 ^ (q - U).toNat < 2 ^ (n.log2 + 1 + (q - U).toNat) := by rw [Nat.pow_add]; exact Nat.mul_lt_mul_of_pos_right Nat.lt_log2_self (Nat.two_pow_pos _)
    have h3 : 2 ^ (m.log2 + (p - U).toNat) < 2 ^ (n.log2 + 1 + (q - U).toNat) := by omega
    have h4 := (Nat.pow_lt_pow_iff_right (by omega : 1 < 2)).1 h3
    omega
  have hlast : lastP m p ≤ lastP n q := by unfold lastP; omega
  have hge : -1074 ≤ lastP m p := by unfold lastP; omega
  unfold rndR
  rw [if_neg hm, if_neg hn]
  rcases (by omega : lastP m p = lastP n q ∨ lastP m p < lastP n q) with e | e
  · have hh : halfEven (m * 2 ^ (p - lastP m p).toNat) (2 ^ (lastP m p - p).toNat) ≤ halfEven (n * 2 ^ (q - lastP n q).toNat) (2 ^ (lastP n q - q).toNat) := by
      refine halfEven_mono (Nat.two_pow_pos _) (Nat.two_pow_pos _) ?_
      rw [← e]
      generalize lastP m p = L
      rw [Nat.mul_assoc, Nat.mul_assoc, ← Nat.pow_add, ← Nat.pow_add]
      rcases (by omega : p ≤ q ∨ q ≤ p) with hpq | hpq
      · have h5 : m ≤ n * 2 ^ (q - p).toNat := by
          have h6 : n * 2 ^ (q - U).toNat = n * 2 ^ (q - p).toNat * 2 ^ (p - U).toNat := by rw [Nat.mul_assoc, ← Nat.pow_add]; congr 2; omega
          rw [h6] at h
          exact Nat.le_of_mul_le_mul_right h (Nat.two_pow_pos _)
        have h7 := Nat.mul_le_mul_right (2 ^ ((p - L).toNat + (L - q).toNat)) h5
        rw [Nat.mul_assoc n, ← Nat.pow_add] at h7
        have h8 : (q - p).toNat + ((p - L).toNat + (L - q).toNat) = (q - L).toNat + (L - p).toNat := by omega
        rw [h8] at h7
        exact h7
      · have h5 : m * 2 ^ (p - q).toNat ≤ n := by
          have h6 : m * 2 ^ (p - U).toNat = m * 2 ^ (p - q).toNat * 2 ^ (q - U).toNat := by rw [Nat.mul_assoc, ← Nat.pow_add]; congr 2; omega
          rw [h6] at h
          exact Nat.le_of_mul_le_mul_right h (Nat.two_pow_pos _)
        have h7 := Nat.mul_le_mul_right (2 ^ ((q - L).toNat + (L - p).toNat)) h5
        rw [Nat.mul_assoc m, ← Nat.pow_add] at h7
        have h8 : (p - q).toNat + ((q - L).toNat + (L - p).toNat) = (p - L).toNat + (L - q).toNat := by omega
        rw [h8] at h7
        exact h7
    exact min_up (by rw [e]) hh
  · exact min_over (by omega) (kept_lt m p) (kept_ge hn (by omega : -1074 < lastP n q))
/-- What a float has stays as it is. -/
theorem rndR_exact {m a r : Nat} (h : m * 2 ^ a = rungv r) (hr : r < 9218868437227405312) : rndR m (-1074 + (a : Int)) = r := by
  by_cases hm : m = 0
  · subst hm
    rw [Nat.zero_mul] at h
    have : r = 0 := rungv_inj (by rw [← h]; rfl)
    subst this
    rfl
  have key : ∀ (K e : Nat), m * 2 ^ a = K * 2 ^ e → K < 9007199254740992 → (e = 0 ∨ 4503599627370496 ≤ K) → lastP m (-1074 + (a : Int)) = -1074 + (e : Int) ∧
      halfEven (m * 2 ^ (-1074 + (a : Int) - lastP m (-1074 + (a : Int))).toNat) (2 ^ (lastP m (-1074 + (a : Int)) - (-1074 + (a : Int))).toNat) = K := by
    intro K e hK hK1 hK2
    have hK0 : K ≠ 0 := by
      rintro rfl
      rw [Nat.zero_mul] at hK
      have := Nat.mul_pos (by omega : 0 < m) (Nat.two_pow_pos a)
      omega
    have hl : m.log2 + a = K.log2 + e := by
      have a1 : 2 ^ (m.log2 + a) ≤ m * 2 ^ a := by rw [Nat.pow_add]; exact Nat.mul_le_mul_right _ (log_le hm)
      have a2 : m * 2 ^ a < 2 ^ (m.log2 + 1 + a) := by rw [Nat.pow_add]; exact Nat.mul_lt_mul_of_pos_right Nat.lt_log2_self (Nat.two_pow_pos _)
      have a3 : 2 ^ (K.log2 + e) ≤ K * 2 ^ e := by rw [Nat.pow_add]; exact Nat.mul_le_mul_right _ (log_le hK0)
      have a4 : K * 2 ^ e < 2 ^ (K.log2 + 1 + e) := by rw [Nat.pow_add]; exact Nat.mul_lt_mul_of_pos_right Nat.lt_log2_self (Nat.two_pow_pos _)
      have a5 : 2 ^ (m.log2 + a) < 2 ^ (K.log2 + 1 + e) := by omega
      have a6 : 2 ^ (K.log2 + e) < 2 ^ (m.log2 + 1 + a) := by omega
      have a7 := (Nat.pow_lt_pow_iff_right (by omega : 1 < 2)).1 a5
      have a8 := (Nat.pow_lt_pow_iff_right (by omega : 1 < 2)).1 a6
      omega
    have hlK : K.log2 ≤ 52 := by
      have := (Nat.log2_lt hK0).2 (show K < 2 ^ 53 by omega)
      omega
    have hlast : lastP m (-1074 + (a : Int)) = -1074 + (e : Int) := by
      unfold lastP
      rcases hK2 with rfl | hK2
      · omega
      · have := (Nat.le_log2 hK0).2 (show 2 ^ 52 ≤ K by omega)
        omega
    refine ⟨hlast, ?_⟩
    rw [hlast]
    rcases (by omega : a ≤ e ∨ e ≤ a) with hae | hae
    · have e1 : (-1074 + (a : Int) - (-1074 + (e : Int))).toNat = 0 := by omega
      have e2 : (-1074 + (e : Int) - (-1074 + (a : Int))).toNat = e - a := by omega
      have e3 : m = K * 2 ^ (e - a) := by
        have : K * 2 ^ e = K * 2 ^ (e - a) * 2 ^ a := by rw [Nat.mul_assoc, ← Nat.pow_add]; congr 2; omega
        rw [this] at hK
        exact Nat.eq_of_mul_eq_mul_right (Nat.two_pow_pos _) hK
      rw [e1, e2, Nat.pow_zero, Nat.mul_one, e3]
      exact halfEven_exact _ _ (Nat.two_pow_pos _)
    · have e1 : (-1074 + (a : Int) - (-1074 + (e : Int))).toNat = a - e := by omega
      have e2 : (-1074 + (e : Int) - (-1074 + (a : Int))).toNat = 0 := by omega
      have e3 : m * 2 ^ (a - e) = K := by
        have : m * 2 ^ a = m * 2 ^ (a - e) * 2 ^ e := by rw [Nat.mul_assoc, ← Nat.pow_add]; congr 2; omega
        rw [this] at hK
        exact Nat.eq_of_mul_eq_mul_right (Nat.two_pow_pos _) hK
      rw [e1, e2, e3, Nat.pow_zero]
      have := halfEven_exact K 1 (by omega)
      rwa [Nat.mul_one] at this
  unfold rndR
  rw [if_neg hm]
  unfold rungv at h
  by_cases h1 : r < 4503599627370496
  · rw [if_pos h1] at h
    obtain ⟨k1, k2⟩ := key r 0 (by rw [h, Nat.pow_zero, Nat.mul_one]) (by omega) (Or.inl rfl)
    rw [k2, k1]
    omega
  · rw [if_neg h1] at h
    obtain ⟨k1, k2⟩ := key _ _ h (by omega) (Or.inr (by omega))
    rw [k2, k1]
    omega
end Go.Proofs.Ytlnpiemnkpogfaa
