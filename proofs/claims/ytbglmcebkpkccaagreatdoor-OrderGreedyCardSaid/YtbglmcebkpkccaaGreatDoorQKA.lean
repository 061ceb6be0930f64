/- Sums and differences of floats. Plain arithmetic over the given model of floats. -/
import Ieee.Arith
import GoSem.Core.Float

/- How floats of 64 bits lie, by their bits. Plain arithmetic over the given model of floats. -/
namespace Go.Proofs.YtbglmcebkpkccaaGreatDoor

/-- How large what a rung stands for is, in the least unit. -/
def rungv (r : Nat) : Nat := if r < 4503599627370496 then r else (4503599627370496 + r % 4503599627370496) * 2 ^ (r / 4503599627370496 - 1)
theorem rungv_lt {r s : Nat} (h : r < s) : rungv r < rungv s := by
  unfold rungv
  by_cases h1 : r < 4503599627370496
  · rw [if_pos h1]
    by_cases h2 : s < 4503599627370496
    · rw [if_pos h2]; exact h
    · rw [if_neg h2]
      have h3 : 1 ≤ 2 ^ (s / 4503599627370496 - 1) := Nat.one_le_two_pow
      have h4 := Nat.mul_le_mul_left (4503599627370496 + s % 4503599627370496) h3
      omega
  · rw [if_neg h1, if_neg (by omega)]
    have h5 : r / 4503599627370496 ≤ s / 4503599627370496 := Nat.div_le_div_right (by omega)
    by_cases h6 : r / 4503599627370496 = s / 4503599627370496
    · rw [h6]
      exact Nat.mul_lt_mul_of_pos_right (by omega) (Nat.two_pow_pos _)
    · have h7 : r / 4503599627370496 - 1 + 1 ≤ s / 4503599627370496 - 1 := by omega
      have h8 : 2 ^ (r / 4503599627370496 - 1) * 2 ≤ 2 ^ (s / 4503599627370496 - 1) := by
        rw [← Nat.pow_succ]; exact Nat.pow_le_pow_right (by omega) h7
      have h9 : 0 < 2 ^ (r / 4503599627370496 - 1) := Nat.two_pow_pos _
      generalize 2 ^ (r / 4503599627370496 - 1) = p at *
      generalize 2 ^ (s / 4503599627370496 - 1) = q at *
      have h10 : (4503599627370496 + r % 4503599627370496) * p < 9007199254740992 * p := Nat.mul_lt_mul_of_pos_right (by omega) h9
      have h11 : 4503599627370496 * q ≤ (4503599627370496 + s % 4503599627370496) * q := Nat.mul_le_mul_right _ (by omega)
      omega
theorem rungv_le {r s : Nat} (h : r ≤ s) : rungv r ≤ rungv s := by
  rcases Nat.lt_or_eq_of_le h with h | h
  · exact Nat.le_of_lt (rungv_lt h)
  · rw [h]; exact Nat.le_refl _
theorem rungv_inj {r s : Nat} (h : rungv r = rungv s) : r = s := by
  rcases Nat.lt_trichotomy r s with h1 | h1 | h1
  · have := rungv_lt h1; omega
  · exact h1
  · have := rungv_lt h1; omega
def negB (x : Nat) : Bool := x / 9223372036854775808 % 2 == 1
def rungB (x : Nat) : Nat := x % 9223372036854775808
def nanB (x : Nat) : Bool := decide (9218868437227405312 < rungB x)
def sgI (neg : Bool) (v : Nat) : Int := if neg then -(v : Int) else v
/-- Where a float that is a number lies. -/
def litI (x : Nat) : Int := sgI (negB x) (rungv (rungB x))

theorem dSign : Ieee.double.signWeight = 9223372036854775808 := by decide
theorem dBin : Ieee.double.binade = 4503599627370496 := by decide
theorem dInf : Ieee.double.infRung = 9218868437227405312 := by decide
theorem dLeast : Ieee.double.leastPlace = -1074 := by decide
theorem signed_sg (s : Bool) (m a : Nat) : Ieee.signed s m a = sgI s (m * 2 ^ a) := by
  unfold Ieee.signed sgI
  rw [Nat.shiftLeft_eq]
theorem read_fin (x : Nat) (h : rungB x < 9218868437227405312) : ∃ (m : Nat) (a : Nat), Ieee.double.read x = .number (negB x) m (-1074 + (a : Int)) ∧ m * 2 ^ a = rungv (rungB x) := by
  unfold Ieee.Format.read
  simp only [dSign, dBin, dInf, dLeast]
  unfold rungB at h ⊢
  by_cases h1 : x % 9223372036854775808 < 4503599627370496
  · rw [if_pos h1]
    exact ⟨_, 0, rfl, by unfold rungv; rw [if_pos h1]; omega⟩
  · rw [if_neg h1, if_pos h]
    exact ⟨_, _, rfl, by unfold rungv; rw [if_neg h1]⟩
theorem read_inf (x : Nat) (h : rungB x = 9218868437227405312) : Ieee.double.read x = .infinity (negB x) := by
  unfold Ieee.Format.read
  simp only [dSign, dBin, dInf, dLeast]
  unfold rungB at h
  rw [if_neg (by omega), if_neg (by omega), if_pos h]
  rfl
theorem read_nan (x : Nat) (h : 9218868437227405312 < rungB x) : ∃ f, Ieee.double.read x = .nan (negB x) f := by
  unfold Ieee.Format.read
  simp only [dSign, dBin, dInf, dLeast]
  unfold rungB at h
  rw [if_neg (by omega), if_neg (by omega), if_neg (by omega)]
  exact ⟨_, rfl⟩
theorem compare_mul (u v c : Int) (hc : 0 < c) : compare (u * c) (v * c) = compare u v := by
  rcases Int.lt_trichotomy u v with h | h | h
  · rw [Int.compare_eq_lt.2 h, Int.compare_eq_lt.2 (Int.mul_lt_mul_of_pos_right h hc)]
  · subst h; rw [Int.compare_eq_eq.2 rfl, Int.compare_eq_eq.2 rfl]
  · rw [Int.compare_eq_gt.2 h, Int.compare_eq_gt.2 (Int.mul_lt_mul_of_pos_right h hc)]
theorem sgI_mul (s : Bool) (m a b : Nat) : sgI s (m * 2 ^ a) * (2 ^ b : Nat) = sgI s (m * 2 ^ (a + b)) := by
  unfold sgI
  rw [Nat.pow_add, ← Nat.mul_assoc, Int.natCast_mul (m * 2 ^ a)]
  split
  · rw [Int.neg_mul]
  · rfl
/-- Two floats that are numbers lie to each other as what they stand for does. -/
theorem order_lit (x y : Nat) (hx : nanB x = false) (hy : nanB y = false) : Ieee.double.order x y = some (compare (litI x) (litI y)) := by
  unfold nanB at hx hy
  simp only [decide_eq_false_iff_not, Nat.not_lt] at hx hy
  unfold Ieee.Format.order litI
  rcases Nat.lt_or_eq_of_le hx with h1 | h1
  · obtain ⟨m, a, e1, e2⟩ := read_fin x h1
    rw [e1]
    rcases Nat.lt_or_eq_of_le hy with h2 | h2
    · obtain ⟨n, b, e3, e4⟩ := read_fin y h2
      rw [e3, ← e2, ← e4]
      simp only [Ieee.Datum.order, signed_sg]
      congr 1
      rcases Nat.le_total a b with h | h
      · have hm : min (-1074 + (a : Int)) (-1074 + (b : Int)) = -1074 + (a : Int) := by omega
        have hk : (-1074 + (b : Int) - (-1074 + (a : Int))).toNat = b - a := by omega
        rw [hm, hk, Int.sub_self, ← compare_mul _ _ (2 ^ a : Nat) (by have := Nat.two_pow_pos a; omega), sgI_mul, sgI_mul]
        congr 3
        · simp
        · rw [Nat.sub_add_cancel h]
      · have hm : min (-1074 + (a : Int)) (-1074 + (b : Int)) = -1074 + (b : Int) := by omega
        have hk : (-1074 + (a : Int) - (-1074 + (b : Int))).toNat = a - b := by omega
        rw [hm, hk, Int.sub_self, ← compare_mul _ _ (2 ^ b : Nat) (by have := Nat.two_pow_pos b; omega), sgI_mul, sgI_mul]
        congr 3
        · rw [Nat.sub_add_cancel h]
        · simp
    · rw [read_inf y h2]
      simp only [Ieee.Datum.order]
      have h3 : rungv (rungB x) < rungv (rungB y) := rungv_lt (by omega)
      clear e2
      generalize rungv (rungB x) = p at *
      generalize rungv (rungB y) = q at *
      congr 1
      unfold sgI
      cases negB y <;> cases negB x <;> simp <;> (symm; first | (apply Int.compare_eq_lt.2; omega) | (apply Int.compare_eq_gt.2; omega))
  · rw [read_inf x h1]
    rcases Nat.lt_or_eq_of_le hy with h2 | h2
    · obtain ⟨n, b, e3, e4⟩ := read_fin y h2
      rw [e3]
      simp only [Ieee.Datum.order]
      have h3 : rungv (rungB y) < rungv (rungB x) := rungv_lt (by omega)
      clear e4
      generalize rungv (rungB y) = p at *
      generalize rungv (rungB x) = q at *
      congr 1
      unfold sgI
      cases negB y <;> cases negB x <;> simp <;> (symm; first | (apply Int.compare_eq_lt.2; omega) | (apply Int.compare_eq_gt.2; omega))
    · rw [read_inf y h2]
      simp only [Ieee.Datum.order]
      have h3 : 0 < rungv (rungB x) := by
        have := @rungv_lt 0 (rungB x) (by omega)
        omega
      have h4 : rungB y = rungB x := by omega
      rw [h4]
      generalize rungv (rungB x) = q at *
      congr 1
      unfold sgI
      cases negB y <;> cases negB x <;> simp <;> (symm; first | (apply Int.compare_eq_lt.2; omega) | (apply Int.compare_eq_gt.2; omega) | (apply Int.compare_eq_eq.2; omega))
theorem order_nan (x y : Nat) (h : nanB x = true ∨ nanB y = true) : Ieee.double.order x y = none := by
  unfold nanB at h
  simp only [decide_eq_true_eq] at h
  unfold Ieee.Format.order
  rcases h with h | h
  · obtain ⟨f, e⟩ := read_nan x h
    rw [e]; rfl
  · obtain ⟨f, e⟩ := read_nan y h
    rw [e]
    cases Ieee.double.read x <;> rfl
theorem lit_zero : litI 0 = 0 := by decide +kernel
theorem lit_pos (x : Nat) (h : x < 9223372036854775808) : litI x = (rungv x : Nat) := by
  unfold litI negB rungB sgI
  have e1 : x / 9223372036854775808 = 0 := Nat.div_eq_of_lt h
  have e2 : x % 9223372036854775808 = x := Nat.mod_eq_of_lt h
  rw [e1, e2]
  simp
theorem lit_neg (x : Nat) (h : 9223372036854775808 ≤ x) (h' : x < 18446744073709551616) : litI x = -(rungv (x - 9223372036854775808) : Nat) := by
  unfold litI negB rungB sgI
  have e1 : x / 9223372036854775808 = 1 := by omega
  have e2 : x % 9223372036854775808 = x - 9223372036854775808 := by omega
  rw [e1, e2]
  simp
/-- The document's own nearest share, by bits. -/
def cleanB (b : Nat) : Nat :=
  if 9218868437227405312 < b % 9223372036854775808 then 4607182418800017408
  else if b ≠ b % 9223372036854775808 ∨ b % 9223372036854775808 = 0 then 0
  else if 4607182418800017408 ≤ b then 4607182418800017408 else b
theorem cleanB_le (b : Nat) : cleanB b ≤ 4607182418800017408 := by
  unfold cleanB
  (repeat' split) <;> omega
theorem cleanB_self {b : Nat} (h : b ≤ 4607182418800017408) : cleanB b = b := by
  unfold cleanB
  rw [Nat.mod_eq_of_lt (by omega)]
  (repeat' split) <;> omega
end Go.Proofs.YtbglmcebkpkccaaGreatDoor

/- To which float a number is rounded: never less of more; what a float has stays as it is. Plain arithmetic over the given model of floats. -/
namespace Go.Proofs.YtbglmcebkpkccaaGreatDoor

/-- n over d as a whole number: the nearest one, and between two the even one. -/
def halfEven (n d : Nat) : Nat := n / d + (d < 2 * (n % d) || (d == 2 * (n % d) && n / d % 2 == 1)).toNat
theorem halfEven_bounds (n d : Nat) : n / d ≤ halfEven n d ∧ halfEven n d ≤ n / d + 1 := by
  unfold halfEven
  have : ∀ b : Bool, b.toNat ≤ 1 := fun b => by cases b <;> decide
  have := this (d < 2 * (n % d) || (d == 2 * (n % d) && n / d % 2 == 1))
  omega
theorem halfEven_mono {n d n' d' : Nat} (hd : 0 < d) (hd' : 0 < d') (h : n * d' ≤ n' * d) : halfEven n d ≤ halfEven n' d' := by
  have e1 := Nat.div_add_mod n d
  have e2 := Nat.div_add_mod n' d'
  have l1 := Nat.mod_lt n hd
  have l2 := Nat.mod_lt n' hd'
  have hq : n / d ≤ n' / d' := by
    rw [Nat.le_div_iff_mul_le hd']
    have h1 : n / d * d * d' ≤ n * d' := Nat.mul_le_mul_right _ (Nat.div_mul_le_self n d)
    have h2 : n / d * d' * d ≤ n' * d := by rw [Nat.mul_right_comm]; omega
    exact Nat.le_of_mul_le_mul_right h2 hd
  have b1 := halfEven_bounds n d
  have b2 := halfEven_bounds n' d'
  rcases Nat.lt_or_eq_of_le hq with hq | hq
  · omega
  · unfold halfEven
    rw [← hq] at e2 ⊢
    generalize n / d = q at *
    generalize n % d = r at *
    generalize n' % d' = r' at *
    have hr : r * d' ≤ r' * d := by
      have h1 : n * d' = d * q * d' + r * d' := by rw [← e1, Nat.add_mul]
      have h2 : n' * d = d' * q * d + r' * d := by rw [← e2, Nat.add_mul]
      have h3 : d * q * d' = d' * q * d := by rw [Nat.mul_comm d q, Nat.mul_comm d' q, Nat.mul_right_comm]
      omega
    have key : ∀ c : Bool, ((d < 2 * r || (d == 2 * r && c)) = true) → ((d' < 2 * r' || (d' == 2 * r' && c)) = true) := by
      intro c hc
      simp only [Bool.or_eq_true, Bool.and_eq_true, decide_eq_true_eq, beq_iff_eq] at hc ⊢
      rcases hc with hc | ⟨hc, hc'⟩
      · left
        rcases Nat.lt_or_ge d' (2 * r') with h0 | h0
        · exact h0
        · exfalso
          have a1 : d * d' < 2 * r * d' := Nat.mul_lt_mul_of_pos_right hc hd'
          have a2 : 2 * r' * d ≤ d' * d := Nat.mul_le_mul_right d h0
          rw [Nat.mul_assoc] at a1 a2
          rw [Nat.mul_comm d' d] at a2
          omega
      · rcases Nat.lt_or_ge d' (2 * r') with h0 | h0
        · exact Or.inl h0
        · right
          refine ⟨?_, hc'⟩
          have a1 : d * d' = 2 * r * d' := by rw [hc]
          have a2 : 2 * r' * d ≤ d' * d := Nat.mul_le_mul_right d h0
          rw [Nat.mul_assoc] at a1 a2
          rw [Nat.mul_comm d' d] at a2
          have a3 : r' * d = r * d' := by omega
          have a4 : d' * d = 2 * r' * d := by rw [Nat.mul_assoc, a3, Nat.mul_comm d' d]; exact a1
          exact Nat.eq_of_mul_eq_mul_right hd a4
    have mono : ∀ a b : Bool, (a = true → b = true) → a.toNat ≤ b.toNat := fun a b h => by cases a <;> cases b <;> simp_all
    have := mono _ _ (key (q % 2 == 1))
    omega
theorem halfEven_exact (k d : Nat) (hd : 0 < d) : halfEven (k * d) d = k := by
  unfold halfEven
  rw [Nat.mul_mod_left, Nat.mul_div_cancel _ hd]
  have : (decide (d < 2 * 0) || (d == 2 * 0 && k % 2 == 1)) = false := by
    simp only [Nat.mul_zero, Nat.not_lt_zero, decide_false, Bool.false_or, Bool.and_eq_false_iff, beq_eq_false_iff_ne]
    left; omega
  rw [this]; rfl
theorem cut_even (neg : Bool) (n drop : Nat) : Ieee.Toward.even.cut neg n drop = halfEven n (2 ^ drop) := by
  unfold Ieee.Toward.cut halfEven
  simp only [Nat.one_shiftLeft]
  by_cases h : drop ≤ n.log2 + 2
  · rw [Nat.min_eq_left h]
  · rw [Nat.min_eq_right (by omega)]
    have h1 : n < 2 ^ (n.log2 + 1) := Nat.lt_log2_self
    have h2 : 2 ^ (n.log2 + 2) = 2 * 2 ^ (n.log2 + 1) := by rw [Nat.pow_succ 2 (n.log2 + 1), Nat.mul_comm]
    have h3 : 2 ^ (n.log2 + 2) ≤ 2 ^ drop := Nat.pow_le_pow_right (by omega) (by omega)
    generalize 2 ^ (n.log2 + 2) = g at *
    generalize 2 ^ (n.log2 + 1) = p at *
    generalize 2 ^ drop = e at *
    rw [Nat.div_eq_of_lt (by omega : n < g), Nat.mod_eq_of_lt (by omega : n < g), Nat.div_eq_of_lt (by omega : n < e), Nat.mod_eq_of_lt (by omega : n < e)]
    have a1 : decide (g < 2 * n) = false := by simp; omega
    have a2 : decide (e < 2 * n) = false := by simp; omega
    rw [a1, a2]
    simp

/-- The place of the last digit that is kept. -/
def lastP (mag : Nat) (place : Int) : Int := max (place + mag.log2 - 52) (-1074)
/-- The rung to which mag * 2^place is rounded. -/
def rndR (mag : Nat) (place : Int) : Nat :=
  if mag = 0 then 0 else
    min ((lastP mag place + 1074).toNat * 4503599627370496 + halfEven (mag * 2 ^ (place - lastP mag place).toNat) (2 ^ (lastP mag place - place).toNat)) 9218868437227405312
theorem nearest_word (neg : Bool) (mag : Nat) (place : Int) : Ieee.double.nearest neg mag place = Ieee.double.word neg (rndR mag place) := by
  unfold Ieee.Format.nearest rndR
  by_cases h : mag = 0
  · rw [if_pos h, if_pos h]
  · rw [if_neg h, if_neg h]
    simp only [dBin, dInf, dLeast, cut_even, Nat.shiftLeft_eq]
    rfl
theorem word_val (neg : Bool) (r : Nat) : Ieee.double.word neg r = if neg then 9223372036854775808 + r else r := by
  unfold Ieee.Format.word
  rw [dSign]
theorem rndR_le (mag : Nat) (place : Int) : rndR mag place ≤ 9218868437227405312 := by
  unfold rndR
  split
  · omega
  · exact Nat.min_le_right _ _

theorem log_le {mag : Nat} (h : mag ≠ 0) : 2 ^ mag.log2 ≤ mag := Nat.log2_self_le h
/-- What is kept has at most 53 digits, and just 53 unless it stands at the least place. -/
theorem kept_lt (mag : Nat) (place : Int) : halfEven (mag * 2 ^ (place - lastP mag place).toNat) (2 ^ (lastP mag place - place).toNat) ≤ 9007199254740992 := by
  have h1 : mag < 2 ^ (mag.log2 + 1) := Nat.lt_log2_self
  have h2 : place + mag.log2 - 52 ≤ lastP mag place := by unfold lastP; omega
  have b := (halfEven_bounds (mag * 2 ^ (place - lastP mag place).toNat) (2 ^ (lastP mag place - place).toNat)).2
  have h3 : mag * 2 ^ (place - lastP mag place).toNat < 9007199254740992 * 2 ^ (lastP mag place - place).toNat := by
    refine Nat.lt_of_lt_of_le (Nat.mul_lt_mul_of_pos_right h1 (Nat.two_pow_pos _)) ?_
    rw [show (9007199254740992 : Nat) = 2 ^ 53 by decide, ← Nat.pow_add, ← Nat.pow_add]
    exact Nat.pow_le_pow_right (by omega) (by omega)
  have h4 := (Nat.div_lt_iff_lt_mul (Nat.two_pow_pos (lastP mag place - place).toNat)).2 h3
  omega
theorem kept_ge {mag : Nat} {place : Int} (h0 : mag ≠ 0) (h : -1074 < lastP mag place) : 4503599627370496 ≤ halfEven (mag * 2 ^ (place - lastP mag place).toNat) (2 ^ (lastP mag place - place).toNat) := by
  have h1 := log_le h0
  have h2 : place + mag.log2 - 52 = lastP mag place := by unfold lastP at *; omega
  have b := (halfEven_bounds (mag * 2 ^ (place - lastP mag place).toNat) (2 ^ (lastP mag place - place).toNat)).1
  have h3 : 4503599627370496 * 2 ^ (lastP mag place - place).toNat ≤ mag * 2 ^ (place - lastP mag place).toNat := by
    refine Nat.le_trans ?_ (Nat.mul_le_mul_right _ h1)
    rw [show (4503599627370496 : Nat) = 2 ^ 52 by decide, ← Nat.pow_add, ← Nat.pow_add]
    exact Nat.pow_le_pow_right (by omega) (by omega)
  have h4 := (Nat.le_div_iff_mul_le (Nat.two_pow_pos (lastP mag place - place).toNat)).2 h3
  omega
theorem min_up {A B a b c : Nat} (h1 : A = B) (h2 : a ≤ b) : min (A * 4503599627370496 + a) c ≤ min (B * 4503599627370496 + b) c := by
  subst h1
  omega
theorem min_over {A B a b c : Nat} (h1 : A < B) (h2 : a ≤ 9007199254740992) (h3 : 4503599627370496 ≤ b) : min (A * 4503599627370496 + a) c ≤ min (B * 4503599627370496 + b) c := by
  omega
/-- Never less of more. -/
theorem rndR_mono {m n : Nat} {p q : Int} (U : Int) (hp : U ≤ p) (hq : U ≤ q) (h : m * 2 ^ (p - U).toNat ≤ n * 2 ^ (q - U).toNat) : rndR m p ≤ rndR n q := by
  by_cases hm : m = 0
  · unfold rndR; rw [if_pos hm]; omega
  have hn : n ≠ 0 := by
    rintro rfl
    rw [Nat.zero_mul] at h
    have := Nat.mul_pos (by omega : 0 < m) (Nat.two_pow_pos (p - U).toNat)
    omega
  have hlog : p + m.log2 ≤ q + n.log2 := by
    have h1 : 2 ^ (m.log2 + (p - U).toNat) ≤ m * 2 ^ (p - U).toNat := by rw [Nat.pow_add]; exact Nat.mul_le_mul_right _ (log_le hm)
    have h2 : n * 2 ^ (q - U).toNat < 2 ^ (n.log2 + 1 + (q - U).toNat) := by rw [Nat.pow_add]; exact Nat.mul_lt_mul_of_pos_right Nat.lt_log2_self (Nat.two_pow_pos _)
    have h3 : 2 ^ (m.log2 + (p - U).toNat) < 2 ^ (n.log2 + 1 + (q - U).toNat) := by omega
    have h4 := (Nat.pow_lt_pow_iff_right (by omega : 1 < 2)).1 h3
    omega
  have hlast : lastP m p ≤ lastP n q := by unfold lastP; omega
  have hge : -1074 ≤ lastP m p := by unfold lastP; omega
  unfold rndR
  rw [if_neg hm, if_neg hn]
  rcases (by omega : lastP m p = lastP n q ∨ lastP m p < lastP n q) with e | e
  · have hh : halfEven (m * 2 ^ (p - lastP m p).toNat) (2 ^ (lastP m p - p).toNat) ≤ halfEven (n * 2 ^ (q - lastP n q).toNat) (2 ^ (lastP n q - q).toNat) := by
      refine halfEven_mono (Nat.two_pow_pos _) (Nat.two_pow_pos _) ?_
      rw [← e]
      generalize lastP m p = L
      rw [Nat.mul_assoc, Nat.mul_assoc, ← Nat.pow_add, ← Nat.pow_add]
      rcases (by omega : p ≤ q ∨ q ≤ p) with hpq | hpq
      · have h5 : m ≤ n * 2 ^ (q - p).toNat := by
          have h6 : n * 2 ^ (q - U).toNat = n * 2 ^ (q - p).toNat * 2 ^ (p - U).toNat := by rw [Nat.mul_assoc, ← Nat.pow_add]; congr 2; omega
          rw [h6] at h
          exact Nat.le_of_mul_le_mul_right h (Nat.two_pow_pos _)
        have h7 := Nat.mul_le_mul_right (2 ^ ((p - L).toNat + (L - q).toNat)) h5
        rw [Nat.mul_assoc n, ← Nat.pow_add] at h7
        have h8 : (q - p).toNat + ((p - L).toNat + (L - q).toNat) = (q - L).toNat + (L - p).toNat := by omega
        rw [h8] at h7
        exact h7
      · have h5 : m * 2 ^ (p - q).toNat ≤ n := by
          have h6 : m * 2 ^ (p - U).toNat = m * 2 ^ (p - q).toNat * 2 ^ (q - U).toNat := by rw [Nat.mul_assoc, ← Nat.pow_add]; congr 2; omega
          rw [h6] at h
          exact Nat.le_of_mul_le_mul_right h (Nat.two_pow_pos _)
        have h7 := Nat.mul_le_mul_right (2 ^ ((q - L).toNat + (L - p).toNat)) h5
        rw [Nat.mul_assoc m, ← Nat.pow_add] at h7
        have h8 : (p - q).toNat + ((q - L).toNat + (L - p).toNat) = (p - L).toNat + (L - q).toNat := by omega
        rw [h8] at h7
        exact h7
    exact min_up (by rw [e]) hh
  · exact min_over (by omega) (kept_lt m p) (kept_ge hn (by omega : -1074 < lastP n q))
/-- What a float has stays as it is. -/
theorem rndR_exact {m a r : Nat} (h : m * 2 ^ a = rungv r) (hr : r < 9218868437227405312) : rndR m (-1074 + (a : Int)) = r := by
  by_cases hm : m = 0
  · subst hm
    rw [Nat.zero_mul] at h
    have : r = 0 := rungv_inj (by rw [← h]; rfl)
    subst this
    rfl
  have key : ∀ (K e : Nat), m * 2 ^ a = K * 2 ^ e → K < 9007199254740992 → (e = 0 ∨ 4503599627370496 ≤ K) → lastP m (-1074 + (a : Int)) = -1074 + (e : Int) ∧
      halfEven (m * 2 ^ (-1074 + (a : Int) - lastP m (-1074 + (a : Int))).toNat) (2 ^ (lastP m (-1074 + (a : Int)) - (-1074 + (a : Int))).toNat) = K := by
    intro K e hK hK1 hK2
    have hK0 : K ≠ 0 := by
      rintro rfl
      rw [Nat.zero_mul] at hK
      have := Nat.mul_pos (by omega : 0 < m) (Nat.two_pow_pos a)
      omega
    have hl : m.log2 + a = K.log2 + e := by
      have a1 : 2 ^ (m.log2 + a) ≤ m * 2 ^ a := by rw [Nat.pow_add]; exact Nat.mul_le_mul_right _ (log_le hm)
      have a2 : m * 2 ^ a < 2 ^ (m.log2 + 1 + a) := by rw [Nat.pow_add]; exact Nat.mul_lt_mul_of_pos_right Nat.lt_log2_self (Nat.two_pow_pos _)
      have a3 : 2 ^ (K.log2 + e) ≤ K * 2 ^ e := by rw [Nat.pow_add]; exact Nat.mul_le_mul_right _ (log_le hK0)
      have a4 : K * 2 ^ e < 2 ^ (K.log2 + 1 + e) := by rw [Nat.pow_add]; exact Nat.mul_lt_mul_of_pos_right Nat.lt_log2_self (Nat.two_pow_pos _)
      have a5 : 2 ^ (m.log2 + a) < 2 ^ (K.log2 + 1 + e) := by omega
      have a6 : 2 ^ (K.log2 + e) < 2 ^ (m.log2 + 1 + a) := by omega
      have a7 := (Nat.pow_lt_pow_iff_right (by omega : 1 < 2)).1 a5
      have a8 := (Nat.pow_lt_pow_iff_right (by omega : 1 < 2)).1 a6
      omega
    have hlK : K.log2 ≤ 52 := by
      have := (Nat.log2_lt hK0).2 (show K < 2 ^ 53 by omega)
      omega
    have hlast : lastP m (-1074 + (a : Int)) = -1074 + (e : Int) := by
      unfold lastP
      rcases hK2 with rfl | hK2
      · omega
      · have := (Nat.le_log2 hK0).2 (show 2 ^ 52 ≤ K by omega)
        omega
    refine ⟨hlast, ?_⟩
    rw [hlast]
    rcases (by omega : a ≤ e ∨ e ≤ a) with hae | hae
    · have e1 : (-1074 + (a : Int) - (-1074 + (e : Int))).toNat = 0 := by omega
      have e2 : (-1074 + (e : Int) - (-1074 + (a : Int))).toNat = e - a := by omega
      have e3 : m = K * 2 ^ (e - a) := by
        have : K * 2 ^ e = K * 2 ^ (e - a) * 2 ^ a := by rw [Nat.mul_assoc, ← Nat.pow_add]; congr 2; omega
        rw [this] at hK
        exact Nat.eq_of_mul_eq_mul_right (Nat.two_pow_pos _) hK
      rw [e1, e2, Nat.pow_zero, Nat.mul_one, e3]
      exact halfEven_exact _ _ (Nat.two_pow_pos _)
    · have e1 : (-1074 + (a : Int) - (-1074 + (e : Int))).toNat = a - e := by omega
      have e2 : (-1074 + (e : Int) - (-1074 + (a : Int))).toNat = 0 := by omega
      have e3 : m * 2 ^ (a - e) = K := by
        have : m * 2 ^ a = m * 2 ^ (a - e) * 2 ^ e := by rw [Nat.mul_assoc, ← Nat.pow_add]; congr 2; omega
        rw [this] at hK
        exact Nat.eq_of_mul_eq_mul_right (Nat.two_pow_pos _) hK
      rw [e1, e2, e3, Nat.pow_zero]
      have := halfEven_exact K 1 (by omega)
      rwa [Nat.mul_one] at this
  unfold rndR
  rw [if_neg hm]
  unfold rungv at h
  by_cases h1 : r < 4503599627370496
  · rw [if_pos h1] at h
    obtain ⟨k1, k2⟩ := key r 0 (by rw [h, Nat.pow_zero, Nat.mul_one]) (by omega) (Or.inl rfl)
    rw [k2, k1]
    omega
  · rw [if_neg h1] at h
    obtain ⟨k1, k2⟩ := key _ _ h (by omega) (Or.inr (by omega))
    rw [k2, k1]
    omega
end Go.Proofs.YtbglmcebkpkccaaGreatDoor

/- Quotients of floats that come of integers. Plain arithmetic over the given model of floats. -/
namespace Go.Proofs.YtbglmcebkpkccaaGreatDoor

theorem rndR_small {m : Nat} (h : m ≤ 18446744073709551616) : rndR m 0 < 9218868437227405312 := by
  unfold rndR
  split
  · omega
  · rename_i h0
    have hl : m.log2 ≤ 64 := by
      have h1 := Nat.log2_self_le h0
      have h2 : 2 ^ m.log2 < 2 ^ 65 := by omega
      have := (Nat.pow_lt_pow_iff_right (by omega : 1 < 2)).1 h2
      omega
    have hk := kept_lt m 0
    have hL : (lastP m 0 + 1074).toNat ≤ 1086 := by unfold lastP; omega
    omega
theorem rndR_some {m : Nat} (h0 : m ≠ 0) : 0 < rndR m 0 := by
  unfold rndR
  rw [if_neg h0]
  have hL : -1074 < lastP m 0 := by unfold lastP; omega
  have hk := kept_ge h0 hL
  omega
/-- What a word says of its sign and rung. -/
theorem word_read {s : Bool} {r : Nat} (h : r < 9218868437227405312) : negB (Ieee.double.word s r) = s ∧ rungB (Ieee.double.word s r) = r := by
  rw [word_val]
  unfold negB rungB
  cases s
  · simp only [Bool.false_eq_true, if_false]
    constructor
    · rw [beq_eq_false_iff_ne]; omega
    · omega
  · simp only [if_true]
    constructor
    · rw [beq_iff_eq]; omega
    · omega
theorem read_word {s : Bool} {r : Nat} (h : r < 9218868437227405312) : ∃ (m : Nat) (p : Int), Ieee.double.read (Ieee.double.word s r) = .number s m p ∧ (m = 0 ↔ r = 0) := by
  obtain ⟨h1, h2⟩ := word_read (s := s) h
  obtain ⟨m, a, e1, e2⟩ := read_fin (Ieee.double.word s r) (by rw [h2]; exact h)
  rw [h1] at e1
  refine ⟨m, _, e1, ?_⟩
  rw [h2] at e2
  constructor
  · rintro rfl
    rw [Nat.zero_mul] at e2
    exact rungv_inj (by rw [← e2]; rfl)
  · rintro rfl
    have h0 : rungv 0 = 0 := rfl
    rw [h0] at e2
    have hp := Nat.two_pow_pos a
    rcases Nat.mul_eq_zero.1 e2 with h | h
    · exact h
    · omega
theorem clean_neg {r : Nat} (h : r ≤ 9218868437227405312) : cleanB (9223372036854775808 + r) = 0 := by
  unfold cleanB
  have : (9223372036854775808 + r) % 9223372036854775808 = r := by omega
  rw [this, if_neg (by omega), if_pos (by omega)]
theorem clean_word (s : Bool) (r : Nat) (h : r ≤ 9218868437227405312) : cleanB (Ieee.double.word s r) = if s then 0 else if 4607182418800017408 ≤ r then 4607182418800017408 else r := by
  rw [word_val]
  cases s
  · simp only [Bool.false_eq_true, if_false]
    unfold cleanB
    have : r % 9223372036854775808 = r := by omega
    rw [this, if_neg (by omega)]
    by_cases h0 : r = 0
    · subst h0; rfl
    · rw [if_neg (by omega)]
  · simp only [if_true]
    exact clean_neg h
/-- The float of an integer. -/
def intB (n : Int) : Nat := Ieee.double.word (decide (n < 0)) (rndR n.natAbs 0)
theorem intB_lt (n : Int) : intB n < 18446744073709551616 := by
  unfold intB
  have := rndR_le n.natAbs 0
  rw [word_val]
  split <;> omega
theorem intB_read (n : Int) (h : n.natAbs ≤ 18446744073709551616) : ∃ (m : Nat) (p : Int), Ieee.double.read (intB n) = .number (decide (n < 0)) m p ∧ (m = 0 ↔ n = 0) := by
  obtain ⟨m, p, h1, h2⟩ := read_word (s := decide (n < 0)) (rndR_small h)
  refine ⟨m, p, h1, ?_⟩
  rw [h2]
  constructor
  · intro h0
    by_cases hz : n.natAbs = 0
    · omega
    · have := rndR_some hz; omega
  · rintro rfl
    rfl
/-- The quotient of two integers as floats, made a share. -/
def ofB (a b : Int) : Nat := if b = 0 then (if a < 0 then 0 else 4607182418800017408) else cleanB ((Ieee.double.div (intB a) (intB b)).getD 0)
theorem div_some (a b : Int) (ha : a.natAbs ≤ 18446744073709551616) (hb : b.natAbs ≤ 18446744073709551616) (h : b ≠ 0) :
    ∃ r, r ≤ 9218868437227405312 ∧ (a = 0 → r = 0) ∧ Ieee.double.div (intB a) (intB b) = some (Ieee.double.word (decide (a < 0) ^^ decide (b < 0)) r) := by
  obtain ⟨m, i, h1, h2⟩ := intB_read a ha
  obtain ⟨n, j, h3, h4⟩ := intB_read b hb
  have hn : n ≠ 0 := fun h0 => h (h4.1 h0)
  unfold Ieee.Format.div
  rw [h1, h3]
  unfold Ieee.Datum.quotient
  simp only [if_neg hn, Option.map_some, Ieee.Format.write, nearest_word]
  refine ⟨_, rndR_le _ _, ?_, rfl⟩
  intro ha0
  have hm := h2.2 ha0
  rw [hm, Nat.zero_shiftLeft, Nat.zero_div, Nat.zero_mod]
  rfl
theorem div_inf (a : Int) (ha : a.natAbs ≤ 18446744073709551616) (h : a ≠ 0) : Ieee.double.div (intB a) (intB 0) = some (Ieee.double.word (decide (a < 0)) 9218868437227405312) := by
  obtain ⟨m, i, h1, h2⟩ := intB_read a ha
  have hm : m ≠ 0 := fun h0 => h (h2.1 h0)
  obtain ⟨n, j, h3, h4⟩ := intB_read 0 (by decide)
  have hn : n = 0 := h4.2 rfl
  subst hn
  unfold Ieee.Format.div
  rw [h1, h3]
  unfold Ieee.Datum.quotient
  simp only [if_true, if_neg hm, Option.map_some, Ieee.Format.write, dInf]
  simp
theorem div_nan : Ieee.double.div (intB 0) (intB 0) = none := by
  obtain ⟨n, j, h3, h4⟩ := intB_read 0 (by decide)
  have hn : n = 0 := h4.2 rfl
  subst hn
  unfold Ieee.Format.div
  rw [h3]
  unfold Ieee.Datum.quotient
  simp
theorem ofB_zero {a b : Int} (ha : a.natAbs ≤ 18446744073709551616) (hb : b.natAbs ≤ 18446744073709551616) (h : b ≠ 0) (h' : a = 0 ∨ (a < 0 ∧ 0 < b) ∨ (0 < a ∧ b < 0)) : ofB a b = 0 := by
  obtain ⟨r, h1, h2, h3⟩ := div_some a b ha hb h
  unfold ofB
  rw [if_neg h, h3, Option.getD_some, clean_word _ _ h1]
  rcases h' with h0 | ⟨h4, h5⟩ | ⟨h4, h5⟩
  · rw [h2 h0]
    split <;> rfl
  · have e1 : decide (a < 0) = true := decide_eq_true h4
    have e2 : decide (b < 0) = false := decide_eq_false (by omega)
    rw [e1, e2]; rfl
  · have e1 : decide (a < 0) = false := decide_eq_false (by omega)
    have e2 : decide (b < 0) = true := decide_eq_true h5
    rw [e1, e2]; rfl
theorem ofB_le (a b : Int) : ofB a b ≤ 4607182418800017408 := by
  unfold ofB
  split
  · split <;> omega
  · exact cleanB_le _
end Go.Proofs.YtbglmcebkpkccaaGreatDoor

/- Products of floats from +0 on; floats as whole numbers. Plain arithmetic over the given model of floats. -/
namespace Go.Proofs.YtbglmcebkpkccaaGreatDoor

/-- 1 in the least unit. -/
def eT : Nat := 1074
theorem eT_eq : eT = 1074 := rfl
attribute [irreducible] eT
def unitT : Nat := 2 ^ eT
theorem unitT_eq : unitT = 2 ^ eT := rfl
attribute [irreducible] unitT
theorem unitT_pos : 0 < unitT := by rw [unitT_eq]; exact Nat.two_pow_pos _
/-- n over d, rounded up. -/
def ceilN (n d : Nat) : Nat := n / d + (n % d != 0).toNat
theorem ceilN_eq {n d k : Nat} (hd : 0 < d) (h1 : n ≤ k * d) (h2 : k * d < n + d) : ceilN n d = k := by
  unfold ceilN
  have e := Nat.div_add_mod n d
  have l := Nat.mod_lt n hd
  by_cases h0 : n % d = 0
  · rw [h0] at e ⊢
    have hb : ((0 : Nat) != 0).toNat = 0 := rfl
    rw [hb, Nat.add_zero]
    have e2 : n / d * d = n := by rw [Nat.mul_comm]; exact e
    have h3 : n / d ≤ k := Nat.le_of_mul_le_mul_right (by omega : n / d * d ≤ k * d) hd
    have h4 : k * d < (n / d + 1) * d := by rw [Nat.add_mul, Nat.one_mul]; omega
    have h5 : k < n / d + 1 := Nat.lt_of_mul_lt_mul_right h4
    omega
  · have hb : (n % d != 0).toNat = 1 := by
      have : (n % d != 0) = true := by rw [bne_iff_ne]; exact h0
      rw [this]; rfl
    rw [hb]
    have h4 : k * d < (n / d + 2) * d := by rw [Nat.add_mul, Nat.mul_comm (n / d)]; omega
    have h5 : k < n / d + 2 := Nat.lt_of_mul_lt_mul_right h4
    have h6 : n / d * d < k * d := by rw [Nat.mul_comm (n / d)]; omega
    have h7 : n / d < k := Nat.lt_of_mul_lt_mul_right h6
    omega
theorem ceilN_le (n d : Nat) (hd : 0 < d) : n ≤ ceilN n d * d ∧ ceilN n d * d < n + d := by
  unfold ceilN
  have e := Nat.div_add_mod n d
  have l := Nat.mod_lt n hd
  have e2 := Nat.mul_comm d (n / d)
  by_cases h0 : n % d = 0
  · have hb : (n % d != 0).toNat = 0 := by rw [h0]; rfl
    rw [hb, Nat.add_zero]
    omega
  · have hb : (n % d != 0).toNat = 1 := by
      have : (n % d != 0) = true := by rw [bne_iff_ne]; exact h0
      rw [this]; rfl
    rw [hb, Nat.add_mul, Nat.one_mul]
    omega
theorem ceilN_mono {n m d : Nat} (hd : 0 < d) (h : n ≤ m) : ceilN n d ≤ ceilN m d := by
  have h1 := ceilN_le n d hd
  have h2 := ceilN_le m d hd
  have h4 : ceilN n d * d < (ceilN m d + 1) * d := by rw [Nat.add_mul, Nat.one_mul]; omega
  have := Nat.lt_of_mul_lt_mul_right h4
  omega
theorem cut_up (n drop : Nat) : Ieee.Toward.up.cut false n drop = ceilN n (2 ^ drop) := by
  unfold Ieee.Toward.cut ceilN
  simp only [Nat.one_shiftLeft, Bool.not_false, Bool.true_and]
  by_cases h : drop ≤ n.log2 + 2
  · rw [Nat.min_eq_left h]
  · rw [Nat.min_eq_right (by omega)]
    have h1 : n < 2 ^ (n.log2 + 1) := Nat.lt_log2_self
    have h2 : 2 ^ (n.log2 + 2) = 2 * 2 ^ (n.log2 + 1) := by rw [Nat.pow_succ 2 (n.log2 + 1), Nat.mul_comm]
    have h3 : 2 ^ (n.log2 + 2) ≤ 2 ^ drop := Nat.pow_le_pow_right (by omega) (by omega)
    generalize 2 ^ (n.log2 + 2) = g at *
    generalize 2 ^ (n.log2 + 1) = p at *
    generalize 2 ^ drop = e at *
    rw [Nat.div_eq_of_lt (by omega : n < g), Nat.mod_eq_of_lt (by omega : n < g), Nat.div_eq_of_lt (by omega : n < e), Nat.mod_eq_of_lt (by omega : n < e)]
theorem cut_zero (neg : Bool) (n drop : Nat) : Ieee.Toward.zero.cut neg n drop = n / 2 ^ drop := by
  unfold Ieee.Toward.cut
  simp only [Nat.one_shiftLeft, Bool.toNat_false, Nat.add_zero]
  by_cases h : drop ≤ n.log2 + 2
  · rw [Nat.min_eq_left h]
  · rw [Nat.min_eq_right (by omega)]
    have h1 : n < 2 ^ (n.log2 + 1) := Nat.lt_log2_self
    have h2 : 2 ^ (n.log2 + 2) = 2 * 2 ^ (n.log2 + 1) := by rw [Nat.pow_succ 2 (n.log2 + 1), Nat.mul_comm]
    have h3 : 2 ^ (n.log2 + 2) ≤ 2 ^ drop := Nat.pow_le_pow_right (by omega) (by omega)
    generalize 2 ^ (n.log2 + 2) = g at *
    generalize 2 ^ (n.log2 + 1) = p at *
    generalize 2 ^ drop = e at *
    rw [Nat.div_eq_of_lt (by omega : n < g), Nat.div_eq_of_lt (by omega : n < e)]
/-- What a float is, as a whole number: rounded down, rounded up. -/
def floorR (r : Nat) : Nat := rungv r / unitT
def ceilR (r : Nat) : Nat := ceilN (rungv r) unitT
theorem scaled {m a : Nat} : (1074 ≤ a ∧ (-1074 + (a : Int)).toNat = a - 1074 ∧ (-(-1074 + (a : Int))).toNat = 0 ∧ m * 2 ^ a = m * 2 ^ (a - 1074) * unitT) ∨
    (a < 1074 ∧ (-1074 + (a : Int)).toNat = 0 ∧ (-(-1074 + (a : Int))).toNat = 1074 - a ∧ unitT = 2 ^ (1074 - a) * 2 ^ a) := by
  have hT := eT_eq
  rcases Nat.lt_or_ge a 1074 with h | h
  · right
    refine ⟨h, by omega, by omega, ?_⟩
    rw [unitT_eq, ← Nat.pow_add]
    congr 1
    omega
  · left
    refine ⟨h, by omega, by omega, ?_⟩
    rw [unitT_eq, Nat.mul_assoc, ← Nat.pow_add]
    congr 2
    omega
theorem ceil_read {m a r : Nat} (h : m * 2 ^ a = rungv r) : Ieee.Toward.up.cut false (m <<< (-1074 + (a : Int)).toNat) (-(-1074 + (a : Int))).toNat = ceilR r := by
  rw [cut_up, Nat.shiftLeft_eq]
  unfold ceilR
  rw [← h]
  rcases @scaled m a with ⟨h1, e1, e2, e3⟩ | ⟨h1, e1, e2, e3⟩
  · rw [e1, e2, e3, Nat.pow_zero]
    rw [ceilN_eq (k := m * 2 ^ (a - 1074)) (by omega) (by omega) (by omega)]
    exact (ceilN_eq unitT_pos (Nat.le_refl _) (by have := unitT_pos; omega)).symm
  · rw [e1, e2, Nat.pow_zero, Nat.mul_one]
    obtain ⟨b1, b2⟩ := ceilN_le m (2 ^ (1074 - a)) (Nat.two_pow_pos _)
    refine (ceilN_eq unitT_pos ?_ ?_).symm
    · rw [e3, ← Nat.mul_assoc]
      exact Nat.mul_le_mul_right _ b1
    · rw [e3, ← Nat.mul_assoc, ← Nat.add_mul]
      exact Nat.mul_lt_mul_of_pos_right b2 (Nat.two_pow_pos _)
theorem floor_read {m a r : Nat} (s : Bool) (h : m * 2 ^ a = rungv r) : Ieee.Toward.zero.cut s (m <<< (-1074 + (a : Int)).toNat) (-(-1074 + (a : Int))).toNat = floorR r := by
  rw [cut_zero, Nat.shiftLeft_eq]
  unfold floorR
  rw [← h]
  rcases @scaled m a with ⟨h1, e1, e2, e3⟩ | ⟨h1, e1, e2, e3⟩
  · rw [e1, e2, e3, Nat.pow_zero, Nat.div_one, Nat.mul_div_cancel _ unitT_pos]
  · rw [e1, e2, e3, Nat.pow_zero, Nat.mul_one, Nat.mul_div_mul_right _ _ (Nat.two_pow_pos _)]
/-- A whole number that a float has. -/
def Rep (k : Nat) : Prop := ∃ r, r < 9218868437227405312 ∧ rungv r = k * unitT
theorem rep_small {k : Nat} (h : k ≤ 9007199254740992) : Rep k := by
  have hT := eT_eq
  by_cases h0 : k = 0
  · subst h0
    exact ⟨0, by omega, (Nat.zero_mul _).symm ▸ (rfl : rungv 0 = 0)⟩
  · have key : ∀ (K e : Nat), 4503599627370496 ≤ K → K < 9007199254740992 → e ≤ 1075 → K * 2 ^ e = k * unitT → Rep k := by
      intro K e k1 k2 k3 k4
      refine ⟨(e + 1) * 4503599627370496 + (K - 4503599627370496), by omega, ?_⟩
      unfold rungv
      have d1 : ((e + 1) * 4503599627370496 + (K - 4503599627370496)) / 4503599627370496 = e + 1 := by omega
      have d2 : ((e + 1) * 4503599627370496 + (K - 4503599627370496)) % 4503599627370496 = K - 4503599627370496 := by omega
      have d3 : 4503599627370496 + (K - 4503599627370496) = K := by omega
      rw [if_neg (by omega), d1, d2, Nat.add_sub_cancel, ← k4, d3]
    by_cases h1 : k = 9007199254740992
    · refine key 4503599627370496 (eT + 1) (by omega) (by omega) (by omega) ?_
      rw [h1, unitT_eq, Nat.pow_succ 2 eT]
      generalize 2 ^ eT = z
      omega
    · have hl : k.log2 ≤ 52 := by
        have := (Nat.log2_lt h0).2 (show k < 2 ^ 53 by omega)
        omega
      have a1 : 2 ^ k.log2 ≤ k := Nat.log2_self_le h0
      have a2 : k < 2 ^ (k.log2 + 1) := Nat.lt_log2_self
      have a3 := Nat.mul_le_mul_right (2 ^ (52 - k.log2)) a1
      have a4 := Nat.mul_lt_mul_of_pos_right a2 (Nat.two_pow_pos (52 - k.log2))
      rw [← Nat.pow_add, show k.log2 + (52 - k.log2) = 52 by omega] at a3
      rw [← Nat.pow_add, show k.log2 + 1 + (52 - k.log2) = 53 by omega] at a4
      refine key (k * 2 ^ (52 - k.log2)) (eT - (52 - k.log2)) a3 a4 (by omega) ?_
      rw [unitT_eq, Nat.mul_assoc, ← Nat.pow_add]
      congr 2
      omega
theorem rep_round {k : Nat} (h : Rep k) : rndR k 0 < 9218868437227405312 ∧ rungv (rndR k 0) = k * unitT := by
  obtain ⟨r, h1, h2⟩ := h
  have hT := eT_eq
  have h3 : rndR k (-1074 + (eT : Int)) = r := rndR_exact (by rw [h2, unitT_eq]) h1
  rw [show (-1074 + (eT : Int)) = 0 by omega] at h3
  rw [h3]
  exact ⟨h1, h2⟩
/-- Each float from 2^52 on is whole; so what one is rounded to, down or up, a float has. -/
theorem rep_or {r : Nat} (h : r < 9218868437227405312) : (∃ k, Rep k ∧ rungv r = k * unitT) ∨ rungv r < 9007199254740992 * unitT := by
  have hT := eT_eq
  by_cases h1 : 1075 ≤ r / 4503599627370496
  · left
    refine ⟨(4503599627370496 + r % 4503599627370496) * 2 ^ (r / 4503599627370496 - 1 - 1074), ⟨r, h, ?_⟩, ?_⟩
    all_goals
      unfold rungv
      rw [if_neg (by omega), unitT_eq, Nat.mul_assoc, ← Nat.pow_add]
      congr 2
      omega
  · right
    unfold rungv
    split
    · have := unitT_pos
      omega
    · have e : 2 ^ (r / 4503599627370496 - 1) ≤ unitT := by
        rw [unitT_eq]
        exact Nat.pow_le_pow_right (by omega) (by omega)
      have h2 := Nat.mul_le_mul_left (4503599627370496 + r % 4503599627370496) e
      have h3 : (4503599627370496 + r % 4503599627370496) * unitT < 9007199254740992 * unitT := Nat.mul_lt_mul_of_pos_right (by omega) unitT_pos
      omega
theorem rep_ceil {r : Nat} (h : r < 9218868437227405312) : Rep (ceilR r) := by
  rcases rep_or h with ⟨k, h1, h2⟩ | h1
  · have : ceilR r = k := by
      unfold ceilR
      rw [h2]
      exact ceilN_eq unitT_pos (Nat.le_refl _) (by have := unitT_pos; omega)
    rw [this]; exact h1
  · refine rep_small ?_
    unfold ceilR
    obtain ⟨_, b2⟩ := ceilN_le (rungv r) unitT unitT_pos
    have h4 : ceilN (rungv r) unitT * unitT < (9007199254740992 + 1) * unitT := by rw [Nat.add_mul, Nat.one_mul]; omega
    have := Nat.lt_of_mul_lt_mul_right h4
    omega
theorem rep_floor {r : Nat} (h : r < 9218868437227405312) : Rep (floorR r) := by
  rcases rep_or h with ⟨k, h1, h2⟩ | h1
  · have : floorR r = k := by
      unfold floorR
      rw [h2, Nat.mul_div_cancel _ unitT_pos]
    rw [this]; exact h1
  · refine rep_small ?_
    unfold floorR
    have := (Nat.div_lt_iff_lt_mul unitT_pos).2 h1
    omega
theorem floor_le (r : Nat) : floorR r * unitT ≤ rungv r := Nat.div_mul_le_self _ _
theorem ceil_floor (r : Nat) : ceilR r = if floorR r * unitT < rungv r then floorR r + 1 else floorR r := by
  unfold ceilR floorR ceilN
  have e := Nat.div_add_mod (rungv r) unitT
  rw [Nat.mul_comm] at e
  by_cases h : rungv r % unitT = 0
  · rw [h] at e ⊢
    rw [if_neg (by omega)]
    rfl
  · rw [if_pos (by omega)]
    have : (rungv r % unitT != 0) = true := by rw [bne_iff_ne]; exact h
    rw [this]; rfl
/-- The rung of a product of two floats from +0 on. -/
def mulR (x y : Nat) : Nat :=
  match Ieee.double.read x, Ieee.double.read y with
  | .number _ m i, .number _ n j => rndR (m * n) (i + j)
  | _, _ => 0
theorem read_pos {x : Nat} (h : x < 9218868437227405312) : ∃ m a : Nat, Ieee.double.read x = .number false m (-1074 + (a : Int)) ∧ m * 2 ^ a = rungv x := by
  have h1 : rungB x = x := by unfold rungB; omega
  have h2 : negB x = false := by unfold negB; rw [beq_eq_false_iff_ne]; omega
  obtain ⟨m, a, e1, e2⟩ := read_fin x (by rw [h1]; exact h)
  rw [h2] at e1
  rw [h1] at e2
  exact ⟨m, a, e1, e2⟩
theorem mul_some {x y : Nat} (hx : x < 9218868437227405312) (hy : y < 9218868437227405312) : Ieee.double.mul x y = some (mulR x y) := by
  obtain ⟨m, a, e1, _⟩ := read_pos hx
  obtain ⟨n, b, e3, _⟩ := read_pos hy
  unfold Ieee.Format.mul mulR
  rw [e1, e3]
  simp only [Ieee.Datum.product, Option.map_some, Ieee.Format.write, nearest_word, word_val, Bool.xor_false, Bool.false_eq_true, if_false]
theorem mulR_mono {x y z t : Nat} (hx : x < 9218868437227405312) (hy : y < 9218868437227405312) (hz : z < 9218868437227405312) (ht : t < 9218868437227405312) (h : rungv x * rungv y ≤ rungv z * rungv t) : mulR x y ≤ mulR z t := by
  obtain ⟨m, a, e1, f1⟩ := read_pos hx
  obtain ⟨n, b, e2, f2⟩ := read_pos hy
  obtain ⟨k, c, e3, f3⟩ := read_pos hz
  obtain ⟨l, d, e4, f4⟩ := read_pos ht
  unfold mulR
  rw [e1, e2, e3, e4]
  simp only
  refine rndR_mono (-2148) (by omega) (by omega) ?_
  have g1 : (-1074 + (a : Int) + (-1074 + (b : Int)) - -2148).toNat = a + b := by omega
  have g2 : (-1074 + (c : Int) + (-1074 + (d : Int)) - -2148).toNat = c + d := by omega
  rw [g1, g2, Nat.pow_add, Nat.pow_add]
  have r1 : m * n * (2 ^ a * 2 ^ b) = m * 2 ^ a * (n * 2 ^ b) := by simp only [Nat.mul_assoc, Nat.mul_left_comm]
  have r2 : k * l * (2 ^ c * 2 ^ d) = k * 2 ^ c * (l * 2 ^ d) := by simp only [Nat.mul_assoc, Nat.mul_left_comm]
  rw [r1, r2, f1, f2, f3, f4]
  exact h
theorem one_val : rungv 4607182418800017408 = unitT := by
  have hT := eT_eq
  obtain ⟨c, hc⟩ : ∃ c, eT = 52 + c := ⟨1022, by omega⟩
  unfold rungv
  rw [if_neg (by omega), unitT_eq, show 4607182418800017408 / 4503599627370496 - 1 = c by omega, show 4503599627370496 + 4607182418800017408 % 4503599627370496 = 2 ^ 52 by decide, ← Nat.pow_add, hc]
/-- Times 1 it stays; times less it is no more. -/
theorem mulR_le {x y : Nat} (hx : x < 9218868437227405312) (hy : y ≤ 4607182418800017408) : mulR x y ≤ x := by
  obtain ⟨m, a, e1, f1⟩ := read_pos hx
  obtain ⟨n, b, e2, f2⟩ := read_pos (show y < 9218868437227405312 by omega)
  have h1 := rungv_le hy
  rw [one_val] at h1
  have h2 : rndR m (-1074 + (a : Int)) = x := rndR_exact f1 hx
  have hT := eT_eq
  have key : rndR (m * n) (-1074 + (a : Int) + (-1074 + (b : Int))) ≤ rndR m (-1074 + (a : Int)) := by
    refine rndR_mono (-2148) (by omega) (by omega) ?_
    have g1 : (-1074 + (a : Int) + (-1074 + (b : Int)) - -2148).toNat = a + b := by omega
    have g2 : (-1074 + (a : Int) - -2148).toNat = a + eT := by omega
    rw [g1, g2, Nat.pow_add, Nat.pow_add, ← unitT_eq]
    have r1 : m * n * (2 ^ a * 2 ^ b) = m * 2 ^ a * (n * 2 ^ b) := by simp only [Nat.mul_assoc, Nat.mul_left_comm]
    rw [r1, ← Nat.mul_assoc m]
    exact Nat.mul_le_mul_left _ (by rw [f2]; exact h1)
  unfold mulR
  rw [e1, e2]
  exact Nat.le_trans key (Nat.le_of_eq h2)
theorem mulR_comm (x y : Nat) : mulR x y = mulR y x := by
  unfold mulR
  cases Ieee.double.read x <;> cases Ieee.double.read y <;> simp [Nat.mul_comm, Int.add_comm]
end Go.Proofs.YtbglmcebkpkccaaGreatDoor

namespace Go.Proofs.YtbglmcebkpkccaaGreatDoor

theorem read_finite {x : Nat} (h : rungB x < 9218868437227405312) : ∃ s m i, Ieee.double.read x = .number s m i := by
  obtain ⟨m, a, e, _⟩ := read_fin x h
  exact ⟨_, _, _, e⟩
theorem add_fin {x y : Nat} (hx : rungB x < 9218868437227405312) (hy : rungB y < 9218868437227405312) : ∃ r, Ieee.double.add x y = some r := by
  obtain ⟨s, m, i, e1⟩ := read_finite hx
  obtain ⟨t, n, j, e2⟩ := read_finite hy
  unfold Ieee.Format.add
  rw [e1, e2]
  exact ⟨_, rfl⟩
theorem sub_fin {x y : Nat} (hx : rungB x < 9218868437227405312) (hy : rungB y < 9218868437227405312) : ∃ r, Ieee.double.sub x y = some r := by
  obtain ⟨s, m, i, e1⟩ := read_finite hx
  obtain ⟨t, n, j, e2⟩ := read_finite hy
  unfold Ieee.Format.sub
  rw [e1, e2]
  exact ⟨_, rfl⟩
theorem some_lt {o : Option Ieee.Datum} {r : Nat} (h : o.map Ieee.double.write = some r) : r < 18446744073709551616 := by
  cases o with
  | none => cases h
  | some d =>
    injection h with h
    subst h
    unfold Ieee.Format.write
    cases d with
    | number s m p =>
      simp only [nearest_word, word_val]
      have := rndR_le m p
      split <;> omega
    | infinity s =>
      simp only [word_val, dInf]
      split <;> omega
    | nan s f =>
      simp only [word_val, dInf, dBin]
      split <;> omega
theorem add_lt {x y r : Nat} (h : Ieee.double.add x y = some r) : r < 18446744073709551616 := some_lt h
theorem sub_lt {x y r : Nat} (h : Ieee.double.sub x y = some r) : r < 18446744073709551616 := some_lt h
theorem add_comm (x y : Nat) : Ieee.double.add x y = Ieee.double.add y x := by
  unfold Ieee.Format.add
  congr 1
  cases Ieee.double.read x <;> cases Ieee.double.read y <;> simp [Ieee.Datum.sum]
  · rename_i s m i t n j
    rw [Int.min_comm i j, Int.add_comm (Ieee.signed s m _)]
    simp [Bool.and_comm]
  · rename_i s t
    by_cases h : s = t
    · simp [h]
    · rw [if_neg h, if_neg (fun e => h e.symm)]
theorem rung_pos {x : Nat} (h : x < 9218868437227405312) : rungB x = x := by unfold rungB; omega
theorem sg_total (s t : Bool) (m n a b : Nat) : ∃ c : Nat, (c = a ∨ c = b) ∧ c ≤ a ∧ c ≤ b ∧ min (-1074 + (a : Int)) (-1074 + (b : Int)) = -1074 + (c : Int) ∧
    (Ieee.signed s m (-1074 + (a : Int) - (-1074 + (c : Int))).toNat + Ieee.signed t n (-1074 + (b : Int) - (-1074 + (c : Int))).toNat) * (2 ^ c : Nat) = sgI s (m * 2 ^ a) + sgI t (n * 2 ^ b) := by
  rcases Nat.le_total a b with h | h
  · refine ⟨a, Or.inl rfl, Nat.le_refl _, h, by omega, ?_⟩
    have e1 : (-1074 + (a : Int) - (-1074 + (a : Int))).toNat = 0 := by omega
    have e2 : (-1074 + (b : Int) - (-1074 + (a : Int))).toNat = b - a := by omega
    rw [e1, e2, signed_sg, signed_sg, Int.add_mul, sgI_mul, sgI_mul, Nat.zero_add, Nat.sub_add_cancel h]
  · refine ⟨b, Or.inr rfl, h, Nat.le_refl _, by omega, ?_⟩
    have e1 : (-1074 + (a : Int) - (-1074 + (b : Int))).toNat = a - b := by omega
    have e2 : (-1074 + (b : Int) - (-1074 + (b : Int))).toNat = 0 := by omega
    rw [e1, e2, signed_sg, signed_sg, Int.add_mul, sgI_mul, sgI_mul, Nat.zero_add, Nat.sub_add_cancel h]
/-- 1 less a share is a share. -/
theorem sub_one {x : Nat} (hx : x ≤ 4607182418800017408) : ∃ r, Ieee.double.sub 4607182418800017408 x = some r ∧ r ≤ 4607182418800017408 := by
  obtain ⟨m, a, e1, f1⟩ := read_pos (show 4607182418800017408 < 9218868437227405312 by omega)
  obtain ⟨n, b, e2, f2⟩ := read_pos (show x < 9218868437227405312 by omega)
  have h1 := rungv_le hx
  unfold Ieee.Format.sub
  rw [e1, e2]
  obtain ⟨c, hc, c1, c2, c3, c4⟩ := sg_total false true m n a b
  simp only [Ieee.Datum.opposite, Bool.not_false, Ieee.Datum.sum, c3, Option.map_some, Ieee.Format.write, nearest_word]
  generalize Ieee.signed false m (-1074 + (a : Int) - (-1074 + (c : Int))).toNat + Ieee.signed true n (-1074 + (b : Int) - (-1074 + (c : Int))).toNat = T at *
  have hp : (0 : Int) < (2 ^ c : Nat) := by have := Nat.two_pow_pos c; omega
  rw [f1, f2] at c4
  unfold sgI at c4
  simp only [Bool.false_eq_true, if_false, if_true] at c4
  have hT : 0 ≤ T := by
    rcases (by omega : 0 ≤ T ∨ T + 1 ≤ 0) with h | h
    · exact h
    · have := Int.mul_le_mul_of_nonneg_right h (Int.le_of_lt hp)
      rw [Int.zero_mul, Int.add_mul, Int.one_mul] at this
      omega
  have hneg : (if T = 0 then false && true else decide (T < 0)) = false := by
    split
    · rfl
    · exact decide_eq_false (by omega)
  refine ⟨_, rfl, ?_⟩
  rw [hneg, word_val, if_neg (by decide)]
  have h2 : rndR m (-1074 + (a : Int)) = 4607182418800017408 := rndR_exact f1 (by omega)
  refine Nat.le_trans ?_ (Nat.le_of_eq h2)
  refine rndR_mono (-1074) (by omega) (by omega) ?_
  have g1 : (-1074 + (c : Int) - -1074).toNat = c := by omega
  have g2 : (-1074 + (a : Int) - -1074).toNat = a := by omega
  rw [g1, g2, f1]
  have g3 : ((T.natAbs * 2 ^ c : Nat) : Int) = T * (2 ^ c : Nat) := by
    rw [Int.natCast_mul, Int.natAbs_of_nonneg hT]
  omega
/-- Two shares together are a number. -/
theorem add_share {x y : Nat} (hx : x ≤ 4607182418800017408) (hy : y ≤ 4607182418800017408) : ∃ r, Ieee.double.add x y = some r ∧ r < 9218868437227405312 := by
  obtain ⟨m, a, e1, f1⟩ := read_pos (show x < 9218868437227405312 by omega)
  obtain ⟨n, b, e2, f2⟩ := read_pos (show y < 9218868437227405312 by omega)
  have h1 := rungv_le hx
  have h2 := rungv_le hy
  rw [one_val] at h1 h2
  unfold Ieee.Format.add
  rw [e1, e2]
  obtain ⟨c, hc, c1, c2, c3, c4⟩ := sg_total false false m n a b
  simp only [Ieee.Datum.sum, c3, Option.map_some, Ieee.Format.write, nearest_word]
  generalize Ieee.signed false m (-1074 + (a : Int) - (-1074 + (c : Int))).toNat + Ieee.signed false n (-1074 + (b : Int) - (-1074 + (c : Int))).toNat = T at *
  have hp : (0 : Int) < (2 ^ c : Nat) := by have := Nat.two_pow_pos c; omega
  rw [f1, f2] at c4
  unfold sgI at c4
  simp only [Bool.false_eq_true, if_false] at c4
  have hT : 0 ≤ T := by
    rcases (by omega : 0 ≤ T ∨ T + 1 ≤ 0) with h | h
    · exact h
    · have := Int.mul_le_mul_of_nonneg_right h (Int.le_of_lt hp)
      rw [Int.zero_mul, Int.add_mul, Int.one_mul] at this
      omega
  have hneg : (if T = 0 then false && false else decide (T < 0)) = false := by
    split
    · rfl
    · exact decide_eq_false (by omega)
  refine ⟨_, rfl, ?_⟩
  rw [hneg, word_val, if_neg (by decide)]
  have hT2 := eT_eq
  have h3 := rep_round (rep_small (show 2 ≤ 9007199254740992 by omega))
  refine Nat.lt_of_le_of_lt ?_ h3.1
  refine rndR_mono (-1074) (by omega) (by omega) ?_
  have g1 : (-1074 + (c : Int) - -1074).toNat = c := by omega
  have g2 : ((0 : Int) - -1074).toNat = eT := by omega
  rw [g1, g2, ← unitT_eq]
  have g3 : ((T.natAbs * 2 ^ c : Nat) : Int) = T * (2 ^ c : Nat) := by
    rw [Int.natCast_mul, Int.natAbs_of_nonneg hT]
  omega
end Go.Proofs.YtbglmcebkpkccaaGreatDoor
