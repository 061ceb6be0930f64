/- Layer 39: the document's own reading of a number: plain mathematics. No condition but that bytes are below 256. -/
import Derived.Test.YtcokhgomibimcaaCodeMath2
namespace Go.Proofs.Ytcokhgomibimcaa

/-- How many bytes at the front have another behind them. -/
def hiB : List Nat → Nat
  | [] => 0
  | x :: l => if 128 ≤ x then hiB l + 1 else 0
theorem hiB_le (l : List Nat) : hiB l ≤ l.length := by
  induction l with
  | nil => exact Nat.le_refl _
  | cons x l ih => unfold hiB; split <;> simp only [List.length_cons] <;> omega
theorem hiB_step (l : List Nat) (j : Nat) (h : j ≤ hiB l) (hj : j < l.length) (hx : 128 ≤ l[j]) : j + 1 ≤ hiB l := by
  induction l generalizing j with
  | nil => simp at hj
  | cons x l ih =>
    rcases j with _ | j
    · have hx' : 128 ≤ x := hx
      unfold hiB
      rw [if_pos hx']
      omega
    · unfold hiB at h ⊢
      by_cases h1 : 128 ≤ x
      · rw [if_pos h1] at h ⊢
        have := ih j (by omega) (by simpa using hj) (by simpa using hx)
        omega
      · rw [if_neg h1] at h
        omega
theorem hiB_stop (l : List Nat) (j : Nat) (h : j ≤ hiB l) (hj : j < l.length) (hx : ¬ 128 ≤ l[j]) : hiB l = j := by
  induction l generalizing j with
  | nil => simp at hj
  | cons x l ih =>
    rcases j with _ | j
    · have hx' : ¬ 128 ≤ x := hx
      unfold hiB
      rw [if_neg hx']
    · unfold hiB at h ⊢
      by_cases h1 : 128 ≤ x
      · rw [if_pos h1] at h ⊢
        have := ih j (by omega) (by simpa using hj) (by simpa using hx)
        omega
      · rw [if_neg h1] at h
        omega
theorem hiB_vbF (f z : Nat) (r : List Nat) (hz : z < 2 * 128 ^ f) : hiB (vbF f z ++ r) + 1 = (vbF f z).length := by
  induction f generalizing z with
  | zero =>
    have h1 : z < 2 := by simpa using hz
    rw [vbF_zero]
    show hiB (z :: r) + 1 = 1
    unfold hiB
    rw [if_neg (by omega)]
  | succ f ih =>
    by_cases h : z < 128
    · rw [vbF_small _ _ h]
      show hiB (z :: r) + 1 = 1
      unfold hiB
      rw [if_neg (by omega)]
    · rw [vbF_big _ _ h, List.cons_append, List.length_cons, ← ih (z / 128) ?_]
      · show (if 128 ≤ z % 128 + 128 then hiB (vbF f (z / 128) ++ r) + 1 else 0) + 1 = _
        rw [if_pos (by omega)]
      · rw [Nat.pow_succ] at hz
        exact Nat.div_lt_of_lt_mul (by rw [Nat.mul_comm 128, Nat.mul_assoc]; exact hz)
theorem hiB_vb (z : Nat) (hz : z < 18446744073709551616) (r : List Nat) : hiB (vb z ++ r) + 1 = (vb z).length :=
  hiB_vbF 9 z r (by rw [show 2 * 128 ^ 9 = 18446744073709551616 from by decide]; exact hz)
theorem hiB_scan (l : List Nat) (hl : ∀ x ∈ l, x < 256) (z n : Nat) (h : scan l 0 0 = some (z, n)) : hiB l + 1 = n ∧ n ≤ 10 ∧ n ≤ l.length := by
  obtain ⟨a1, a2, a3, a4⟩ := vb_scan l hl z n h
  have e := hiB_vb z a1 (l.drop n)
  rw [← a3, List.take_append_drop] at e
  have := (vb_len z).2
  rw [e, a3, ← a2]
  exact ⟨rfl, by omega, a4⟩
/-- The document's own: too long, or without an end. -/
theorem scan_far (l : List Nat) (hl : ∀ x ∈ l, x < 256) (h : l.length ≤ hiB l ∨ 10 ≤ hiB l) : scan l 0 0 = none := by
  rcases e : scan l 0 0 with _ | ⟨z, n⟩
  · rfl
  · have := hiB_scan l hl z n e
    omega
/-- The document's own: put again, it is the same. -/
theorem scan_same (l : List Nat) (z : Nat) (hz : z < 18446744073709551616) (h : l.take (hiB l + 1) = vb z) (hk : hiB l < l.length) : scan l 0 0 = some (z, hiB l + 1) := by
  have e := scan_vb z hz (l.drop (hiB l + 1))
  rw [← h, List.take_append_drop, List.length_take, Nat.min_eq_left (by omega)] at e
  exact e
/-- The document's own: put again, it is another. -/
theorem scan_other (l : List Nat) (hl : ∀ x ∈ l, x < 256) (h : l.take (hiB l + 1) ≠ vb (valB (l.take (hiB l + 1)) % 18446744073709551616)) : scan l 0 0 = none := by
  rcases e : scan l 0 0 with _ | ⟨z, n⟩
  · rfl
  · exfalso
    have a := hiB_scan l hl z n e
    obtain ⟨a1, a2, a3, a4⟩ := vb_scan l hl z n e
    apply h
    rw [a.1, a3, valB_vb z a1, Nat.mod_eq_of_lt a1]
theorem valB_append (a b : List Nat) : valB (a ++ b) = valB a + 128 ^ a.length * valB b := by
  induction a with
  | nil => simp [valB]
  | cons x a ih =>
    show x % 128 + 128 * valB (a ++ b) = x % 128 + 128 * valB a + _
    rw [ih, List.length_cons, Nat.pow_succ, Nat.mul_add, Nat.add_assoc, Nat.mul_comm (128 ^ a.length) 128, Nat.mul_assoc]
theorem valB_drop (l : List Nat) (i : Nat) (h : i < l.length) : valB (l.drop i) = l[i] % 128 + 128 * valB (l.drop (i + 1)) := by
  rw [List.drop_eq_getElem_cons h]
  rfl
end Go.Proofs.Ytcokhgomibimcaa
