/- Layer 18: bits of words as truths; how many are one: plain mathematics. No condition. -/
import Derived.Test.YthngafgblehpoaaBloom2
namespace Go.Proofs.Ythngafgblehpoaa.B18

/-- The ones of the lowest n bits. -/
def onesN : Nat → Nat → Nat
  | 0, _ => 0
  | n + 1, x => x % 2 + onesN n (x / 2)
theorem onesN_add (a b x : Nat) : onesN (a + b) x = onesN a x + onesN b (x / 2 ^ a) := by
  induction a generalizing x with
  | zero => simp [onesN]
  | succ a ih =>
    rw [show a + 1 + b = (a + b) + 1 by omega]
    show x % 2 + onesN (a + b) (x / 2) = x % 2 + onesN a (x / 2) + _
    rw [ih, Nat.div_div_eq_div_mul, show 2 * 2 ^ a = 2 ^ (a + 1) by rw [Nat.pow_succ, Nat.mul_comm], Nat.add_assoc]
theorem ones_byte (n v q : Nat) (h : v < 256) : onesN (8 + n) (v + 256 * q) = onesN 8 v + onesN n q := by
  rw [onesN_add, show (v + 256 * q) / 2 ^ 8 = q by omega]
  congr 1
  simp only [onesN]
  omega
theorem land_byte (a m A M : Nat) (ha : a < 256) (hm : m < 256) : (a + 256 * A) &&& (m + 256 * M) = (a &&& m) + 256 * (A &&& M) := by
  have hl : a &&& m < 2 ^ 8 := Nat.lt_of_le_of_lt Nat.and_le_left ha
  rw [Nat.add_comm a, Nat.add_comm m, Nat.add_comm (a &&& m)]
  apply Nat.eq_of_testBit_eq
  intro i
  rw [Nat.testBit_and, show 256 = 2 ^ 8 from rfl, Nat.testBit_two_pow_mul_add _ ha, Nat.testBit_two_pow_mul_add _ hm, Nat.testBit_two_pow_mul_add _ hl]
  split
  · rw [Nat.testBit_and]
  · rw [Nat.testBit_and]
def mk (k : Nat) : Nat → Nat
  | 0 => 0
  | n + 1 => k + 256 * mk k n
theorem mk_succ (k n : Nat) : mk k (n + 1) = k + 256 * mk k n := rfl
def b1 (v : Nat) : Nat := ((v / 2) &&& 85) + (v &&& 85)
def b2 (v : Nat) : Nat := ((v / 4) &&& 51) + (v &&& 51)
def b3 (v : Nat) : Nat := v / 16 + v % 16
def p1 (n x : Nat) : Nat := ((x / 2) &&& mk 85 n) + (x &&& mk 85 n)
def p2 (n x : Nat) : Nat := ((x / 4) &&& mk 51 n) + (x &&& mk 51 n)
def p3 (n x : Nat) : Nat := (x / 16 + x) &&& mk 15 n
theorem f1 : ∀ (v : Fin 128) (b : Fin 2), (v.val + 128 * b.val) &&& 85 = v.val &&& 85 := by decide +kernel
theorem f2 : ∀ (v : Fin 64) (b : Fin 4), (v.val + 64 * b.val) &&& 51 = v.val &&& 51 := by decide +kernel
theorem f3 : ∀ (v : Fin 256), b3 (b2 (b1 v.val)) = onesN 8 v.val ∧ b2 (b1 v.val) % 16 ≤ 4 ∧ b2 (b1 v.val) / 16 ≤ 4 ∧ b1 v.val < 256 ∧ b2 (b1 v.val) < 256 ∧ onesN 8 v.val ≤ 8 := by decide +kernel
theorem p1_step (n v q : Nat) (h : v < 256) : p1 (n + 1) (v + 256 * q) = b1 v + 256 * p1 n q := by
  unfold p1 b1
  rw [mk_succ]
  rw [land_byte v _ q _ h (by decide), show (v + 256 * q) / 2 = (v / 2 + 128 * (q % 2)) + 256 * (q / 2) by omega, land_byte _ _ _ _ (by omega) (by decide)]
  have := f1 ⟨v / 2, by omega⟩ ⟨q % 2, by omega⟩
  simp only at this
  rw [this]
  omega
theorem p2_step (n v q : Nat) (h : v < 256) : p2 (n + 1) (v + 256 * q) = b2 v + 256 * p2 n q := by
  unfold p2 b2
  rw [mk_succ]
  rw [land_byte v _ q _ h (by decide), show (v + 256 * q) / 4 = (v / 4 + 64 * (q % 4)) + 256 * (q / 4) by omega, land_byte _ _ _ _ (by omega) (by decide)]
  have := f2 ⟨v / 4, by omega⟩ ⟨q % 4, by omega⟩
  simp only at this
  rw [this]
  omega
theorem p3_step (n v q : Nat) (h : v % 16 ≤ 4) (h' : v / 16 ≤ 4) (hq : q % 16 ≤ 4) : p3 (n + 1) (v + 256 * q) = b3 v + 256 * p3 n q := by
  unfold p3 b3
  rw [mk_succ]
  rw [show (v + 256 * q) / 16 + (v + 256 * q) = (v / 16 + 16 * (q % 16) + v) + 256 * (q / 16 + q) by omega, land_byte _ _ _ _ (by omega) (by decide)]
  congr 1
  rw [show (15 : Nat) = 2 ^ 4 - 1 from rfl, Nat.and_two_pow_sub_one_eq_mod]
  omega
theorem p1_zero (x : Nat) : p1 0 x = 0 := by simp [p1, mk]
theorem p2_zero (x : Nat) : p2 0 x = 0 := by simp [p2, mk]
theorem p3_zero (x : Nat) : p3 0 x = 0 := by simp [p3, mk]
theorem mod256 (a b : Nat) : (a + 256 * b) % 16 = a % 16 := by omega
theorem shr (a q : Nat) (h : a < 256) : (a + 256 * q) / 256 = q := by omega
theorem col (a b A B : Nat) : (a + 256 * A) + (b + 256 * B) = (a + b) + 256 * (A + B) := by omega
theorem lts (a q M : Nat) (ha : a < 256) (hq : q < M) : a + 256 * q < 256 * M := by omega
theorem bd8 (a0 a1 a2 a3 a4 a5 a6 a7 : Nat) (h0 : a0 < 256) (h1 : a1 < 256) (h2 : a2 < 256) (h3 : a3 < 256) (h4 : a4 < 256) (h5 : a5 < 256) (h6 : a6 < 256) (h7 : a7 < 256) : a0 + 256 * (a1 + 256 * (a2 + 256 * (a3 + 256 * (a4 + 256 * (a5 + 256 * (a6 + 256 * a7)))))) < 18446744073709551616 :=
  lts _ _ _ h0 (lts _ _ _ h1 (lts _ _ _ h2 (lts _ _ _ h3 (lts _ _ _ h4 (lts _ _ _ h5 (lts _ _ _ h6 h7))))))
theorem bdk (k a0 a1 a2 a3 a4 a5 a6 a7 : Nat) (h0 : a0 < 256) (h1 : a1 < 256) (h2 : a2 < 256) (h3 : a3 < 256) (h4 : a4 < 256) (h5 : a5 < 256) (h6 : a6 < 256) (h7 : a7 < k) : a0 + 256 * (a1 + 256 * (a2 + 256 * (a3 + 256 * (a4 + 256 * (a5 + 256 * (a6 + 256 * a7)))))) < 72057594037927936 * k := by
  have := lts _ _ _ h0 (lts _ _ _ h1 (lts _ _ _ h2 (lts _ _ _ h3 (lts _ _ _ h4 (lts _ _ _ h5 (lts _ _ _ h6 h7))))))
  refine Nat.lt_of_lt_of_le this (Nat.le_of_eq ?_)
  clear this
  omega

theorem add1 (o0 o1 o2 o3 o4 o5 o6 o7 : Nat) : (o0 + 256 * (o1 + 256 * (o2 + 256 * (o3 + 256 * (o4 + 256 * (o5 + 256 * (o6 + 256 * o7))))))) + (o1 + 256 * (o2 + 256 * (o3 + 256 * (o4 + 256 * (o5 + 256 * (o6 + 256 * o7)))))) = (o0 + o1) + 256 * ((o1 + o2) + 256 * ((o2 + o3) + 256 * ((o3 + o4) + 256 * ((o4 + o5) + 256 * ((o5 + o6) + 256 * ((o6 + o7) + 256 * o7)))))) := by
  rw [col, col, col, col, col, col, Nat.add_right_comm o6 _ o7]
theorem add2 (s0 s1 s2 s3 s4 s5 s6 o7 : Nat) : s0 + 256 * (s1 + 256 * (s2 + 256 * (s3 + 256 * (s4 + 256 * (s5 + 256 * (s6 + 256 * o7)))))) + (s2 + 256 * (s3 + 256 * (s4 + 256 * (s5 + 256 * (s6 + 256 * o7))))) = (s0 + s2) + 256 * ((s1 + s3) + 256 * ((s2 + s4) + 256 * ((s3 + s5) + 256 * ((s4 + s6) + 256 * ((s5 + o7) + 256 * (s6 + 256 * o7)))))) := by
  rw [col, col, col, col, col, Nat.add_right_comm s5 _ o7]
theorem add3 (t0 t1 t2 t3 t4 t5 s6 o7 : Nat) : t0 + 256 * (t1 + 256 * (t2 + 256 * (t3 + 256 * (t4 + 256 * (t5 + 256 * (s6 + 256 * o7)))))) + (t4 + 256 * (t5 + 256 * (s6 + 256 * o7))) = (t0 + t4) + 256 * ((t1 + t5) + 256 * ((t2 + s6) + 256 * ((t3 + o7) + 256 * (t4 + 256 * (t5 + 256 * (s6 + 256 * o7)))))) := by
  rw [col, col, col, Nat.add_right_comm t3 _ o7]
theorem shr2 (a b q : Nat) (h : a < 256) (h2 : b < 256) : (a + 256 * (b + 256 * q)) / 65536 = q := by
  rw [show 65536 = 256 * 256 from rfl, ← Nat.div_div_eq_div_mul, shr _ _ h, shr _ _ h2]
theorem shr4 (a b c d q : Nat) (h : a < 256) (h2 : b < 256) (h3 : c < 256) (h4 : d < 256) : (a + 256 * (b + 256 * (c + 256 * (d + 256 * q)))) / 4294967296 = q := by
  rw [show 4294967296 = 65536 * 65536 from rfl, ← Nat.div_div_eq_div_mul, shr2 _ _ _ h h2, shr2 _ _ _ h3 h4]
theorem low7 (a Z : Nat) (h : a < 128) : (a + 256 * Z) % 128 = a := by omega
theorem sum_up (o0 o1 o2 o3 o4 o5 o6 o7 : Nat) (m0 : o0 ≤ 8) (m1 : o1 ≤ 8) (m2 : o2 ≤ 8) (m3 : o3 ≤ 8) (m4 : o4 ≤ 8) (m5 : o5 ≤ 8) (m6 : o6 ≤ 8) (m7 : o7 ≤ 8) (c : Nat) (hc : o0 + 256 * (o1 + 256 * (o2 + 256 * (o3 + 256 * (o4 + 256 * (o5 + 256 * (o6 + 256 * o7)))))) = c) :
    ∃ y, c + c / 256 = y ∧ (y + y / 65536) + (y + y / 65536) / 4294967296 < 9223372036854775808 ∧ ((y + y / 65536) + (y + y / 65536) / 4294967296) % 128 = o0 + (o1 + (o2 + (o3 + (o4 + (o5 + (o6 + o7)))))) := by
  have h1 : c / 256 = _ := hc ▸ shr o0 _ (by omega)
  have hy : c + c / 256 = _ := (congrArg (c + ·) h1).trans ((congrArg (· + _) hc.symm).trans (add1 o0 o1 o2 o3 o4 o5 o6 o7))
  refine ⟨_, hy, ?_⟩
  rw [shr2 _ _ _ (by omega) (by omega), add2, shr4 _ _ _ _ _ (by omega) (by omega) (by omega) (by omega), add3]
  refine ⟨Nat.lt_of_lt_of_le (bdk 128 _ _ _ _ _ _ _ _ (by omega) (by omega) (by omega) (by omega) (by omega) (by omega) (by omega) (by omega)) (by decide), ?_⟩
  rw [low7 _ _ (by omega)]
  clear hy h1 hc
  omega
/-- What the bits of a word come to, by halves. -/
theorem ones_all (x : Nat) (hx : x < 18446744073709551616) : ∃ a b c y : Nat, p1 8 x = a ∧ p2 8 a = b ∧ p3 8 b = c ∧ a < 18446744073709551616 ∧ b < 72057594037927936 * 100 ∧ c < 72057594037927936 * 9 ∧
    c + c / 256 = y ∧ (y + y / 65536) + (y + y / 65536) / 4294967296 < 9223372036854775808 ∧ ((y + y / 65536) + (y + y / 65536) / 4294967296) % 128 = onesN 64 x ∧ onesN 64 x ≤ 64 := by
  obtain ⟨v0, q0, h0, e0, l0⟩ : ∃ v q, v < 256 ∧ x = v + 256 * q ∧ q < 72057594037927936 := ⟨x % 256, x / 256, by omega, by omega, by omega⟩
  obtain ⟨v1, q1, h1, e1, l1⟩ : ∃ v q, v < 256 ∧ q0 = v + 256 * q ∧ q < 281474976710656 := ⟨q0 % 256, q0 / 256, by omega, by omega, by omega⟩
  obtain ⟨v2, q2, h2, e2, l2⟩ : ∃ v q, v < 256 ∧ q1 = v + 256 * q ∧ q < 1099511627776 := ⟨q1 % 256, q1 / 256, by omega, by omega, by omega⟩
  obtain ⟨v3, q3, h3, e3, l3⟩ : ∃ v q, v < 256 ∧ q2 = v + 256 * q ∧ q < 4294967296 := ⟨q2 % 256, q2 / 256, by omega, by omega, by omega⟩
  obtain ⟨v4, q4, h4, e4, l4⟩ : ∃ v q, v < 256 ∧ q3 = v + 256 * q ∧ q < 16777216 := ⟨q3 % 256, q3 / 256, by omega, by omega, by omega⟩
  obtain ⟨v5, q5, h5, e5, l5⟩ : ∃ v q, v < 256 ∧ q4 = v + 256 * q ∧ q < 65536 := ⟨q4 % 256, q4 / 256, by omega, by omega, by omega⟩
  obtain ⟨v6, v7, h6, e6, h7⟩ : ∃ v q, v < 256 ∧ q5 = v + 256 * q ∧ q < 256 := ⟨q5 % 256, q5 / 256, by omega, by omega, by omega⟩
  subst e6 e5 e4 e3 e2 e1 e0
  clear hx l0 l1 l2 l3 l4 l5
  have t0 := f3 ⟨v0, h0⟩
  have t1 := f3 ⟨v1, h1⟩
  have t2 := f3 ⟨v2, h2⟩
  have t3 := f3 ⟨v3, h3⟩
  have t4 := f3 ⟨v4, h4⟩
  have t5 := f3 ⟨v5, h5⟩
  have t6 := f3 ⟨v6, h6⟩
  have t7 := f3 ⟨v7, h7⟩
  simp only at t0 t1 t2 t3 t4 t5 t6 t7
  have E : onesN 64 (v0 + 256 * (v1 + 256 * (v2 + 256 * (v3 + 256 * (v4 + 256 * (v5 + 256 * (v6 + 256 * v7))))))) = onesN 8 v0 + (onesN 8 v1 + (onesN 8 v2 + (onesN 8 v3 + (onesN 8 v4 + (onesN 8 v5 + (onesN 8 v6 + onesN 8 v7)))))) := by
    rw [show 64 = 8 + (8 + (8 + (8 + (8 + (8 + (8 + 8)))))) from rfl, ones_byte _ _ _ h0, ones_byte _ _ _ h1, ones_byte _ _ _ h2, ones_byte _ _ _ h3, ones_byte _ _ _ h4, ones_byte _ _ _ h5, ones_byte _ _ _ h6]
  have P1 : p1 8 (v0 + 256 * (v1 + 256 * (v2 + 256 * (v3 + 256 * (v4 + 256 * (v5 + 256 * (v6 + 256 * v7))))))) = b1 v0 + 256 * (b1 v1 + 256 * (b1 v2 + 256 * (b1 v3 + 256 * (b1 v4 + 256 * (b1 v5 + 256 * (b1 v6 + 256 * b1 v7)))))) := by
    rw [p1_step _ _ _ h0, p1_step _ _ _ h1, p1_step _ _ _ h2, p1_step _ _ _ h3, p1_step _ _ _ h4, p1_step _ _ _ h5, p1_step _ _ _ h6]
    have := p1_step 0 v7 0 h7
    rw [p1_zero, Nat.mul_zero, Nat.add_zero, Nat.add_zero] at this
    rw [this, Nat.add_zero]
  generalize b1 v0 = a0 at *
  generalize b1 v1 = a1 at *
  generalize b1 v2 = a2 at *
  generalize b1 v3 = a3 at *
  generalize b1 v4 = a4 at *
  generalize b1 v5 = a5 at *
  generalize b1 v6 = a6 at *
  generalize b1 v7 = a7 at *
  have P2 : p2 8 (a0 + 256 * (a1 + 256 * (a2 + 256 * (a3 + 256 * (a4 + 256 * (a5 + 256 * (a6 + 256 * a7))))))) = b2 a0 + 256 * (b2 a1 + 256 * (b2 a2 + 256 * (b2 a3 + 256 * (b2 a4 + 256 * (b2 a5 + 256 * (b2 a6 + 256 * b2 a7)))))) := by
    rw [p2_step _ _ _ t0.2.2.2.1, p2_step _ _ _ t1.2.2.2.1, p2_step _ _ _ t2.2.2.2.1, p2_step _ _ _ t3.2.2.2.1, p2_step _ _ _ t4.2.2.2.1, p2_step _ _ _ t5.2.2.2.1, p2_step _ _ _ t6.2.2.2.1]
    have := p2_step 0 a7 0 t7.2.2.2.1
    rw [p2_zero, Nat.mul_zero, Nat.add_zero, Nat.add_zero] at this
    rw [this, Nat.add_zero]
  generalize b2 a0 = c0 at *
  generalize b2 a1 = c1 at *
  generalize b2 a2 = c2 at *
  generalize b2 a3 = c3 at *
  generalize b2 a4 = c4 at *
  generalize b2 a5 = c5 at *
  generalize b2 a6 = c6 at *
  generalize b2 a7 = c7 at *
  have P3 : p3 8 (c0 + 256 * (c1 + 256 * (c2 + 256 * (c3 + 256 * (c4 + 256 * (c5 + 256 * (c6 + 256 * c7))))))) = b3 c0 + 256 * (b3 c1 + 256 * (b3 c2 + 256 * (b3 c3 + 256 * (b3 c4 + 256 * (b3 c5 + 256 * (b3 c6 + 256 * b3 c7)))))) := by
    rw [p3_step _ _ _ t0.2.1 t0.2.2.1 (by rw [mod256]; exact t1.2.1), p3_step _ _ _ t1.2.1 t1.2.2.1 (by rw [mod256]; exact t2.2.1), p3_step _ _ _ t2.2.1 t2.2.2.1 (by rw [mod256]; exact t3.2.1), p3_step _ _ _ t3.2.1 t3.2.2.1 (by rw [mod256]; exact t4.2.1), p3_step _ _ _ t4.2.1 t4.2.2.1 (by rw [mod256]; exact t5.2.1), p3_step _ _ _ t5.2.1 t5.2.2.1 (by rw [mod256]; exact t6.2.1), p3_step _ _ _ t6.2.1 t6.2.2.1 (by exact t7.2.1)]
    have := p3_step 0 c7 0 t7.2.1 t7.2.2.1 (by omega)
    rw [p3_zero, Nat.mul_zero, Nat.add_zero, Nat.add_zero] at this
    rw [this, Nat.add_zero]
  rw [t0.1, t1.1, t2.1, t3.1, t4.1, t5.1, t6.1, t7.1] at P3
  obtain ⟨_, u0, w0, r0, s0, m0⟩ := t0
  obtain ⟨_, u1, w1, r1, s1, m1⟩ := t1
  obtain ⟨_, u2, w2, r2, s2, m2⟩ := t2
  obtain ⟨_, u3, w3, r3, s3, m3⟩ := t3
  obtain ⟨_, u4, w4, r4, s4, m4⟩ := t4
  obtain ⟨_, u5, w5, r5, s5, m5⟩ := t5
  obtain ⟨_, u6, w6, r6, s6, m6⟩ := t6
  obtain ⟨_, u7, w7, r7, s7, m7⟩ := t7
  generalize onesN 8 v0 = o0 at *
  generalize onesN 8 v1 = o1 at *
  generalize onesN 8 v2 = o2 at *
  generalize onesN 8 v3 = o3 at *
  generalize onesN 8 v4 = o4 at *
  generalize onesN 8 v5 = o5 at *
  generalize onesN 8 v6 = o6 at *
  generalize onesN 8 v7 = o7 at *
  have a7 : c7 < 100 := by omega
  rw [E]
  obtain ⟨y, hy, hb, hm⟩ := sum_up o0 o1 o2 o3 o4 o5 o6 o7 m0 m1 m2 m3 m4 m5 m6 m7 _ rfl
  refine ⟨_, _, _, y, P1, P2, P3, bd8 _ _ _ _ _ _ _ _ r0 r1 r2 r3 r4 r5 r6 r7, bdk 100 _ _ _ _ _ _ _ _ s0 s1 s2 s3 s4 s5 s6 a7, bdk 9 _ _ _ _ _ _ _ _ (by omega) (by omega) (by omega) (by omega) (by omega) (by omega) (by omega) (by omega), hy, hb, hm, ?_⟩
  clear hy hb hm P1 P2 P3 E
  omega

/-- The document's truths of some words. -/
def bitL (ws : List Nat) : List Bool := (List.range (64 * ws.length)).map fun i => (ws.getD (i / 64) 0).testBit (i % 64)
theorem bitL_len (ws : List Nat) : (bitL ws).length = 64 * ws.length := by simp [bitL]
theorem bitL_at (ws : List Nat) (i : Nat) (h : i < 64 * ws.length) : (bitL ws)[i]? = some ((ws.getD (i / 64) 0).testBit (i % 64)) := by
  unfold bitL
  rw [List.getElem?_map, List.getElem?_range h]
  rfl
theorem bitL_rep (n : Nat) : bitL (List.replicate n 0) = List.replicate (64 * n) false := by
  apply List.ext_getElem?
  intro i
  by_cases h : i < 64 * n
  · rw [bitL_at _ _ (by simpa using h), List.getElem?_replicate, if_pos h]
    congr 1
    rw [List.getD_eq_getElem?_getD, List.getElem?_replicate, if_pos (by omega)]
    exact Nat.zero_testBit _
  · rw [List.getElem?_eq_none (by rw [bitL_len]; simp; omega), List.getElem?_eq_none (by simp; omega)]
theorem getD_set' (ws : List Nat) (b v i : Nat) (hb : b < ws.length) : (ws.set b v).getD i 0 = if b = i then v else ws.getD i 0 := by
  rw [List.getD_eq_getElem?_getD, List.getD_eq_getElem?_getD, List.getElem?_set]
  by_cases e : b = i
  · subst e; simp [hb]
  · simp [e]
theorem bitL_set (ws : List Nat) (b s : Nat) (hb : b < ws.length) (hs : s < 64) : bitL (ws.set b (ws.getD b 0 ||| 2 ^ s)) = (bitL ws).set (64 * b + s) true := by
  apply List.ext_getElem?
  intro i
  rw [List.getElem?_set, bitL_len]
  by_cases h : i < 64 * ws.length
  · rw [bitL_at _ _ (by simpa using h), bitL_at _ _ h, getD_set' _ _ _ _ hb]
    by_cases e : 64 * b + s = i
    · rw [if_pos e, if_pos (by omega), if_pos (by omega), Nat.testBit_or, Nat.testBit_two_pow, show i % 64 = s by omega]
      simp
    · rw [if_neg e]
      by_cases e2 : b = i / 64
      · rw [if_pos e2, Nat.testBit_or, Nat.testBit_two_pow, ← e2, decide_eq_false (by omega), Bool.or_false]
      · rw [if_neg e2]
  · rw [List.getElem?_eq_none (by rw [bitL_len]; simpa using h), List.getElem?_eq_none (by rw [bitL_len]; omega), if_neg (by omega)]
/-- A number's place of its bit j. -/
def placeN (n h j : Nat) : Nat := 64 * buckN h n + (h / 64 ^ j) % 64
theorem place_is (h j : Nat) : (h >>> (6 * j)) % 64 = (h / 64 ^ j) % 64 := by
  rw [Nat.shiftRight_eq_div_pow, Nat.pow_mul]
theorem maskN_succ (h j : Nat) : maskN h (j + 1) = maskN h j ||| 2 ^ ((h / 64 ^ j) % 64) := by
  show maskN h j ||| (1 <<< ((h >>> (6 * j)) % 64)) = _
  rw [Nat.one_shiftLeft, place_is]
theorem addN_zero (ws : List Nat) (h : Nat) : addN ws 0 h = ws := by
  unfold addN
  show ws.set _ (_ ||| 0) = ws
  rw [Nat.or_zero]
  apply List.ext_getElem?
  intro i
  rw [List.getElem?_set]
  by_cases e : buckN h ws.length = i
  · subst e
    by_cases hb : buckN h ws.length < ws.length
    · rw [if_pos rfl, if_pos hb, List.getElem?_eq_getElem hb, List.getD_eq_getElem?_getD, List.getElem?_eq_getElem hb]; rfl
    · rw [if_pos rfl, if_neg hb, List.getElem?_eq_none (by omega)]
  · rw [if_neg e]
theorem addN_len' (ws : List Nat) (k h : Nat) : (addN ws k h).length = ws.length := by unfold addN; simp
theorem addN_succ (ws : List Nat) (j h : Nat) (h0 : 0 < ws.length) : bitL (addN ws (j + 1) h) = (bitL (addN ws j h)).set (placeN ws.length h j) true := by
  have hb : buckN h ws.length < ws.length := Nat.mod_lt _ h0
  have hs : (h / 64 ^ j) % 64 < 64 := Nat.mod_lt _ (by decide)
  have := bitL_set (addN ws j h) (buckN h ws.length) ((h / 64 ^ j) % 64) (by rw [addN_len']; exact hb) hs
  rw [show placeN ws.length h j = 64 * buckN h ws.length + (h / 64 ^ j) % 64 from rfl, ← this]
  congr 1
  unfold addN
  rw [getD_set' _ _ _ _ hb, if_pos rfl, List.set_set, maskN_succ, Nat.or_assoc]
theorem place_lt (ws : List Nat) (h j : Nat) (h0 : 0 < ws.length) : placeN ws.length h j < 64 * ws.length := by
  have hb : buckN h ws.length < ws.length := Nat.mod_lt _ h0
  have hs : (h / 64 ^ j) % 64 < 64 := Nat.mod_lt _ (by decide)
  unfold placeN
  omega
theorem place_bit (ws : List Nat) (h j : Nat) (h0 : 0 < ws.length) : (bitL ws)[placeN ws.length h j]? = some ((ws.getD (buckN h ws.length) 0).testBit ((h / 64 ^ j) % 64)) := by
  rw [bitL_at _ _ (place_lt ws h j h0)]
  have hs : (h / 64 ^ j) % 64 < 64 := Nat.mod_lt _ (by decide)
  unfold placeN
  generalize (h / 64 ^ j) % 64 = s at *
  congr 3
  · omega
  · omega
theorem sub_step (x m s : Nat) : (x &&& (m ||| 2 ^ s)) = (m ||| 2 ^ s) ↔ (x &&& m) = m ∧ x.testBit s = true := by
  constructor
  · intro h
    have hb : ∀ i, (x.testBit i && (m.testBit i || (2 ^ s).testBit i)) = (m.testBit i || (2 ^ s).testBit i) := fun i => by
      have := congrArg (fun z => z.testBit i) h
      simpa [Nat.testBit_and, Nat.testBit_or] using this
    refine ⟨Nat.eq_of_testBit_eq fun i => ?_, ?_⟩
    · have := hb i
      rw [Nat.testBit_and]
      revert this
      cases x.testBit i <;> cases m.testBit i <;> simp
    · have := hb s
      rw [Nat.testBit_two_pow_self] at this
      simpa using this
  · rintro ⟨h1, h2⟩
    refine Nat.eq_of_testBit_eq fun i => ?_
    have hb := congrArg (fun z => z.testBit i) h1
    simp only [Nat.testBit_and] at hb
    rw [Nat.testBit_and, Nat.testBit_or, Nat.testBit_two_pow]
    by_cases e : s = i
    · subst e; simp [h2]
    · rw [decide_eq_false e, Bool.or_false]; exact hb
/-- Are a number's first j bits in a word? -/
def hasJ (x h j : Nat) : Prop := x &&& maskN h j = maskN h j
theorem hasJ_zero (x h : Nat) : hasJ x h 0 := by show x &&& 0 = 0; simp
theorem hasJ_succ (x h j : Nat) : hasJ x h (j + 1) ↔ hasJ x h j ∧ x.testBit ((h / 64 ^ j) % 64) = true := by
  unfold hasJ
  rw [maskN_succ]
  exact sub_step _ _ _
theorem hasJ_less {x h j : Nat} (k : Nat) (hk : j ≤ k) (hh : hasJ x h k) : hasJ x h j := by
  induction k with
  | zero => obtain rfl : j = 0 := by omega
            exact hh
  | succ k ih =>
    rcases (by omega : j = k + 1 ∨ j ≤ k) with e | e
    · subst e; exact hh
    · exact ih e ((hasJ_succ x h k).1 hh).1
theorem has_no {ws : List Nat} {h j k : Nat} (hj : j < k) (hb : (ws.getD (buckN h ws.length) 0).testBit ((h / 64 ^ j) % 64) = false) : hasN ws k h = false := by
  unfold hasN
  rw [beq_eq_false_iff_ne]
  intro he
  have := ((hasJ_succ _ h j).1 (hasJ_less k hj he)).2
  rw [hb] at this
  cases this
theorem has_yes {ws : List Nat} {h k : Nat} (hj : hasJ (ws.getD (buckN h ws.length) 0) h k) : hasN ws k h = true := by
  unfold hasN
  rw [beq_iff_eq]
  exact hj
/-- A word, by its bits. -/
theorem word_step (v i : Nat) : 2 * (v / 2 ^ (i + 1)) + (if v.testBit i then 1 else 0) = v / 2 ^ i := by
  rw [Nat.testBit_eq_decide_div_mod_eq, Nat.pow_succ, ← Nat.div_div_eq_div_mul]
  generalize v / 2 ^ i = z
  by_cases h : z % 2 = 1
  · rw [decide_eq_true h, if_pos rfl]; omega
  · rw [decide_eq_false h]; simp; omega
theorem word_bit (ws : List Nat) (j i : Nat) (hj : j < ws.length) (hi : i < 64) : (bitL ws)[64 * j + i]? = some ((ws.getD j 0).testBit i) := by
  rw [bitL_at _ _ (by omega)]
  congr 3
  · omega
  · omega
/-- How many of the first i are so. -/
def cntB (l : List Bool) : Nat → Nat
  | 0 => 0
  | i + 1 => cntB l i + if l[i]? = some true then 1 else 0
theorem cntB_le (l : List Bool) (i : Nat) : cntB l i ≤ i := by
  induction i with
  | zero => exact Nat.le_refl _
  | succ i ih => show cntB l i + _ ≤ _; split <;> omega
theorem onesN_snoc (n x : Nat) : onesN (n + 1) x = onesN n x + if x.testBit n then 1 else 0 := by
  rw [onesN_add n 1 x, Nat.testBit_eq_decide_div_mod_eq]
  show _ + ((x / 2 ^ n) % 2 + 0) = _
  generalize x / 2 ^ n = z
  by_cases h : z % 2 = 1
  · rw [decide_eq_true h, if_pos rfl]; omega
  · rw [decide_eq_false h]; simp; omega
theorem cntB_word (ws : List Nat) (j i : Nat) (hj : j < ws.length) (hi : i ≤ 64) : cntB (bitL ws) (64 * j + i) = cntB (bitL ws) (64 * j) + onesN i (ws.getD j 0) := by
  induction i with
  | zero => rfl
  | succ i ih =>
    show cntB (bitL ws) (64 * j + i) + (if (bitL ws)[64 * j + i]? = some true then 1 else 0) = _
    rw [ih (by omega), word_bit ws j i hj (by omega), onesN_snoc, Nat.add_assoc]
    cases (ws.getD j 0).testBit i <;> rfl
/-- The ones of the first j words. -/
def onesW (ws : List Nat) : Nat → Nat
  | 0 => 0
  | j + 1 => onesW ws j + onesN 64 (ws.getD j 0)
theorem onesW_is (ws : List Nat) (j : Nat) (hj : j ≤ ws.length) : cntB (bitL ws) (64 * j) = onesW ws j := by
  induction j with
  | zero => rfl
  | succ j ih =>
    show _ = onesW ws j + _
    rw [← ih (by omega), show 64 * (j + 1) = 64 * j + 64 by omega, cntB_word ws j 64 (by omega) (by omega)]
end Go.Proofs.Ythngafgblehpoaa.B18
