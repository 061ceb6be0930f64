/- Layer 39: reading from places on: plain mathematics. No condition but that bytes are below 256. -/
import Derived.Test.YtcokhgomibimcaaAskMath
namespace Go.Proofs.Ytcokhgomibimcaa

theorem ints_at {l : List Nat} (hx : bytesOk l) {p : Nat} (h : p ≤ l.length) :
    (getIs l p = ([], 0, false) ∧ (intsS (l.drop p, false)).2.2 = true) ∨ ∃ m, ∃ q : Nat, q ≤ l.length ∧ getIs l p = (m, (q : Int), true) ∧ intsS (l.drop p, false) = (m, l.drop q, false) := by
  have e : leftS l p = (l.drop p, false) := leftS_in h
  have hs : ∀ (k : Nat) (p : Nat), p ≤ l.length → (numsS k (l.drop p, false)).2.2 = true ∨ ∃ m, ∃ q : Nat, q ≤ l.length ∧ numsS k (l.drop p, false) = (m, l.drop q, false) := by
    intro k p hp
    induction k with
    | zero => exact Or.inr ⟨[], p, hp, rfl⟩
    | succ k ih =>
      rcases ih with ih | ⟨m, q, hq, ih⟩
      · exact Or.inl (numS_failed ih)
      · rcases getI_step hx hq with ⟨_, h2⟩ | ⟨v, q2, hq2, _, h2⟩
        · left
          show (numS (numsS k (l.drop p, false)).2).2.2 = true
          rw [ih]
          simp only
          rw [h2]
        · refine Or.inr ⟨m ++ [v], q2, hq2, ?_⟩
          unfold numsS
          rw [ih]
          simp only
          rw [h2]
  rcases rcnt_any hx p with ⟨_, h2⟩ | ⟨k, q, hk, h1, h2⟩
  · refine Or.inl ⟨h2, ?_⟩
    unfold getIs at h2
    rw [e] at h2
    cases h3 : (intsS (l.drop p, false)).2.2
    · rw [h3] at h2
      simp at h2
    · rfl
  · rw [e] at h2
    rcases hs k q (by omega) with h3 | ⟨m, q2, hq2, h3⟩
    · refine Or.inl ⟨?_, by rw [h2]; exact h3⟩
      unfold getIs
      rw [e, h2, if_pos h3]
    · refine Or.inr ⟨m, q2, hq2, ?_, by rw [h2]; exact h3⟩
      unfold getIs
      rw [e, h2, h3, if_neg (by simp)]
      simp only [List.length_drop]
      congr 2
      omega
theorem cnt_at {l : List Nat} (hx : bytesOk l) {p : Nat} (h : p ≤ l.length) :
    (rcnt l p = (0, 0, false) ∧ (cntS (l.drop p, false)).2.2 = true) ∨ ∃ k q : Nat, q + k ≤ l.length ∧ rcnt l p = ((k : Int), (q : Int), true) ∧ cntS (l.drop p, false) = (k, l.drop q, false) := by
  have e : leftS l p = (l.drop p, false) := leftS_in h
  rcases getI_any hx p with ⟨h1, h2⟩ | ⟨v, q, hq, h1, h2⟩
  · rw [e] at h2
    refine Or.inl ⟨by unfold rcnt; rw [h1]; rfl, ?_⟩
    unfold cntS
    rw [h2]
    rfl
  · rw [e] at h2
    by_cases hc : v < 0 ∨ (l.length : Int) - q < v
    · refine Or.inl ⟨by unfold rcnt; rw [h1]; exact if_pos (Or.inr hc), ?_⟩
      unfold cntS
      rw [h2, if_pos]
      simp only [List.length_drop]
      omega
    · refine Or.inr ⟨v.toNat, q, by omega, ?_, ?_⟩
      · unfold rcnt
        rw [h1, if_neg (fun h => h.elim (fun h => by cases h) hc), Int.toNat_of_nonneg (by omega)]
      · unfold cntS
        rw [h2]
        refine if_neg ?_
        simp only [List.length_drop]
        omega
def zeroC : ColS := ⟨0, 0, []⟩
def zeroT : StatS := ⟨0, []⟩
/-- A column at a place. -/
theorem col_at {l : List Nat} (hx : bytesOk l) {p : Nat} (h : p ≤ l.length) : (colS (l.drop p, false)).2.2 = true ∨ ∃ c, ∃ q : Nat, q ≤ l.length ∧ colS (l.drop p, false) = (c, l.drop q, false) := by
  rcases getI_step hx h with ⟨_, h1⟩ | ⟨u, x, hx1, _, h1⟩
  · left
    show (intsS (numS (numS (l.drop p, false)).2).2).2.2 = true
    rw [h1]
    exact (less_ints _).bad ((less_num _).bad rfl)
  · rcases getI_step hx hx1 with ⟨_, h2⟩ | ⟨n, y, hy1, _, h2⟩
    · left
      show (intsS (numS (numS (l.drop p, false)).2).2).2.2 = true
      rw [h1]
      simp only
      rw [h2]
      exact (less_ints _).bad rfl
    · rcases ints_at hx hy1 with ⟨_, h3⟩ | ⟨m, z, hz, _, h3⟩
      · left
        show (intsS (numS (numS (l.drop p, false)).2).2).2.2 = true
        rw [h1]
        simp only
        rw [h2]
        exact h3
      · right
        refine ⟨⟨u, n, m⟩, z, hz, ?_⟩
        unfold colS
        rw [h1]
        simp only
        rw [h2]
        simp only
        rw [h3]
theorem colsS_stay (s : St) (j i : Nat) (h : (colsS j s).2.2 = true) : (colsS (j + i) s).2.2 = true := by
  induction i with
  | zero => exact h
  | succ i ih => exact (less_col _).bad ih
theorem statsS_stay (s : St) (j i : Nat) (h : (statsS j s).2.2 = true) : (statsS (j + i) s).2.2 = true := by
  induction i with
  | zero => exact h
  | succ i ih => exact (less_stat _).bad ih
end Go.Proofs.Ytcokhgomibimcaa
