/- Layer 39: the first number of some bytes: plain mathematics. No condition but that bytes are below 256. -/
import Derived.Test.YtcokhgomibimcaaCodeMath
namespace Go.Proofs.Ytcokhgomibimcaa

/-- Takes a number from the front: its value, and how many bytes it has. -/
def scan : List Nat → Nat → Nat → Option (Nat × Nat)
  | [], _, _ => none
  | x :: l, i, u => if i = 9 ∧ 1 < x then none else if 128 ≤ x then scan l (i + 1) (u + x % 128 * 128 ^ i) else if x = 0 ∧ 0 < i then none else some (u + x % 128 * 128 ^ i, i + 1)
theorem scan_nil (i u : Nat) : scan [] i u = none := rfl
theorem scan_over (x : Nat) (l : List Nat) (u : Nat) (h : 1 < x) : scan (x :: l) 9 u = none := by
  rw [scan, if_pos ⟨rfl, h⟩]
theorem scan_more (x : Nat) (l : List Nat) (i u : Nat) (h1 : ¬ (i = 9 ∧ 1 < x)) (h : 128 ≤ x) : scan (x :: l) i u = scan l (i + 1) (u + x % 128 * 128 ^ i) := by
  rw [scan, if_neg h1, if_pos h]
theorem scan_zero (x : Nat) (l : List Nat) (i u : Nat) (h1 : ¬ (i = 9 ∧ 1 < x)) (h : ¬ 128 ≤ x) (h2 : x = 0) (h3 : 0 < i) : scan (x :: l) i u = none := by
  rw [scan, if_neg h1, if_neg h, if_pos ⟨h2, h3⟩]
theorem scan_one (x : Nat) (l : List Nat) (i u : Nat) (h1 : ¬ (i = 9 ∧ 1 < x)) (h : ¬ 128 ≤ x) (h2 : ¬ (x = 0 ∧ 0 < i)) : scan (x :: l) i u = some (u + x % 128 * 128 ^ i, i + 1) := by
  rw [scan, if_neg h1, if_neg h, if_neg h2]
theorem vbF_zero (z : Nat) : vbF 0 z = [z] := rfl
theorem vbF_small (f z : Nat) (h : z < 128) : vbF f z = [z] := by
  cases f with
  | zero => rfl
  | succ f => rw [vbF, if_pos h]
theorem vbF_big (f z : Nat) (h : ¬ z < 128) : vbF (f + 1) z = (z % 128 + 128) :: vbF f (z / 128) := by rw [vbF, if_neg h]
/-- What is put is got. -/
theorem scan_vbF (f i u z : Nat) (r : List Nat) (hf : f + i = 9) (hz : z < 2 * 128 ^ f) (h0 : z ≠ 0 ∨ i = 0) : scan (vbF f z ++ r) i u = some (u + z * 128 ^ i, i + (vbF f z).length) := by
  induction f generalizing i u z with
  | zero =>
    rw [vbF_zero]
    have h1 : z < 2 := by simpa using hz
    rw [List.singleton_append, scan_one _ _ _ _ (by omega) (by omega) (by omega), Nat.mod_eq_of_lt (by omega)]
    rfl
  | succ f ih =>
    by_cases h : z < 128
    · rw [vbF_small _ _ h, List.singleton_append, scan_one _ _ _ _ (by omega) (by omega) (by omega), Nat.mod_eq_of_lt h]
      rfl
    · rw [vbF_big _ _ h, List.cons_append, scan_more _ _ _ _ (by omega) (by omega), ih (i + 1) _ (z / 128) (by omega) ?_ (by omega)]
      · have e1 : (z % 128 + 128) % 128 = z % 128 := by omega
        have e2 : u + z % 128 * 128 ^ i + z / 128 * 128 ^ (i + 1) = u + z * 128 ^ i := by
          have e3 : z = z % 128 + 128 * (z / 128) := by omega
          rw [Nat.add_assoc]
          congr 1
          conv => rhs; rw [e3, Nat.add_mul]
          rw [Nat.pow_succ]
          congr 1
          rw [Nat.mul_comm 128 (z / 128), Nat.mul_assoc, Nat.mul_comm 128 (128 ^ i)]
        rw [e1, e2, List.length_cons]
        congr 2
        omega
      · rw [Nat.pow_succ] at hz
        exact Nat.div_lt_of_lt_mul (by rw [Nat.mul_comm 128, Nat.mul_assoc]; exact hz)
theorem scan_vb (z : Nat) (hz : z < 18446744073709551616) (r : List Nat) : scan (vb z ++ r) 0 0 = some (z, (vb z).length) := by
  have h := scan_vbF 9 0 0 z r rfl (by rw [show 2 * 128 ^ 9 = 18446744073709551616 from by decide]; exact hz) (Or.inr rfl)
  unfold vb
  rw [h]
  congr 2 <;> omega
/-- What is got is what was put. -/
theorem vbF_scan (f i u : Nat) (l : List Nat) (hl : ∀ x ∈ l, x < 256) (hf : f + i = 9) (v n : Nat) (h : scan l i u = some (v, n)) : ∃ z, z < 2 * 128 ^ f ∧ v = u + z * 128 ^ i ∧ n = i + (vbF f z).length ∧ (z ≠ 0 ∨ i = 0) ∧ l.take (vbF f z).length = vbF f z ∧ (vbF f z).length ≤ l.length := by
  induction l generalizing f i u with
  | nil => rw [scan_nil] at h; exact absurd h (by simp)
  | cons x l ih =>
    have hx : x < 256 := hl x List.mem_cons_self
    have hl2 : ∀ y ∈ l, y < 256 := fun y hy => hl y (List.mem_cons_of_mem _ hy)
    by_cases h1 : i = 9 ∧ 1 < x
    · rw [h1.1, scan_over _ _ _ h1.2] at h
      exact absurd h (by simp)
    · by_cases h2 : 128 ≤ x
      · rw [scan_more _ _ _ _ h1 h2] at h
        obtain ⟨f, rfl⟩ : ∃ g, f = g + 1 := ⟨f - 1, by omega⟩
        obtain ⟨z, a1, a2, a3, a4, a5, a6⟩ := ih f (i + 1) _ hl2 (by omega) h
        have a7 : z ≠ 0 := by omega
        have e1 : (x % 128 + 128 * z) / 128 = z := by omega
        have e2 : (x % 128 + 128 * z) % 128 + 128 = x := by omega
        have e : vbF (f + 1) (x % 128 + 128 * z) = x :: vbF f z := by rw [vbF_big _ _ (by omega), e1, e2]
        refine ⟨x % 128 + 128 * z, ?_, ?_, ?_, by omega, ?_, ?_⟩
        · rw [Nat.pow_succ]
          generalize 128 ^ f = p at *
          omega
        · rw [a2, Nat.pow_succ, Nat.add_mul, Nat.add_assoc]
          congr 2
          rw [Nat.mul_comm 128 z, Nat.mul_assoc, Nat.mul_comm 128 (128 ^ i)]
        · rw [e, a3, List.length_cons]; omega
        · rw [e, List.length_cons, List.take_succ_cons, a5]
        · rw [e, List.length_cons, List.length_cons]; omega
      · by_cases h3 : x = 0 ∧ 0 < i
        · rw [scan_zero _ _ _ _ h1 h2 h3.1 h3.2] at h
          exact absurd h (by simp)
        · rw [scan_one _ _ _ _ h1 h2 h3] at h
          injection h with h
          injection h with b1 b2
          have e : vbF f x = [x] := vbF_small f x (by omega)
          refine ⟨x, ?_, ?_, ?_, by omega, ?_, ?_⟩
          · have hp : 1 ≤ 128 ^ f := Nat.one_le_pow _ _ (by decide)
            rcases f with _ | f
            · simp; omega
            · have hq : 1 ≤ 128 ^ f := Nat.one_le_pow _ _ (by decide)
              rw [Nat.pow_succ]
              omega
          · rw [← b1, Nat.mod_eq_of_lt (by omega)]
          · rw [e, ← b2]; rfl
          · rw [e]; rfl
          · rw [e]; simp
theorem vb_scan (l : List Nat) (hl : ∀ x ∈ l, x < 256) (z n : Nat) (h : scan l 0 0 = some (z, n)) : z < 18446744073709551616 ∧ n = (vb z).length ∧ l.take n = vb z ∧ n ≤ l.length := by
  obtain ⟨y, a1, a2, a3, _, a5, a6⟩ := vbF_scan 9 0 0 l hl rfl z n h
  have e : z = y := by simpa using a2
  have e2 : n = (vbF 9 y).length := by omega
  subst e
  rw [show 2 * 128 ^ 9 = 18446744073709551616 from by decide] at a1
  refine ⟨a1, e2, ?_, by omega⟩
  rw [e2]
  exact a5
end Go.Proofs.Ytcokhgomibimcaa
