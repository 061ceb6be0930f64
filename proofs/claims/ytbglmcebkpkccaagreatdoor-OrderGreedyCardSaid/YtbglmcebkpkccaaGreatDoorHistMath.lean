/- Sorted numbers, their marks, and how many lie below a number: plain mathematics. No condition. -/
import Derived.Test.YtbglmcebkpkccaaGreatDoorKit
namespace Go.Proofs.YtbglmcebkpkccaaGreatDoor

def sortI (l : List Int) : List Int := l.mergeSort fun x y => decide (x ≤ y)
theorem sortI_len (l : List Int) : (sortI l).length = l.length := List.length_mergeSort l
theorem sortI_perm (l : List Int) : (sortI l).Perm l := List.mergeSort_perm l _
theorem sortI_pw (l : List Int) : (sortI l).Pairwise (· ≤ ·) := by
  have h := List.pairwise_mergeSort (le := fun x y : Int => decide (x ≤ y)) (fun a b c h1 h2 => by simp only [decide_eq_true_eq] at *; omega) (fun a b => by simp only [Bool.or_eq_true, decide_eq_true_eq]; omega) l
  exact h.imp fun {a b} h => by simpa using h
theorem sortI_uniq {l s : List Int} (hp : s.Perm l) (hs : s.Pairwise (· ≤ ·)) : s = sortI l :=
  List.Perm.eq_of_pairwise (le := fun a b : Int => a ≤ b) (fun a b _ _ h1 h2 => by omega) hs (sortI_pw l) (hp.trans (sortI_perm l).symm)
theorem sortI_nil : sortI [] = [] := by simp [sortI]
/-- One more number, put in where it belongs. -/
theorem sortI_snoc (l : List Int) (x : Int) (k : Nat) (h1 : ∀ y ∈ (sortI l).take k, y ≤ x) (h2 : ∀ y ∈ (sortI l).drop k, x ≤ y) :
    (sortI l).take k ++ [x] ++ (sortI l).drop k = sortI (l ++ [x]) := by
  refine sortI_uniq ?_ ?_
  · refine List.Perm.trans (l₂ := (sortI l).take k ++ (sortI l).drop k ++ [x]) ?_ ?_
    · rw [List.append_assoc, List.append_assoc]
      exact List.Perm.append_left _ List.perm_append_comm
    · rw [List.take_append_drop]
      exact (sortI_perm l).append_right _
  · have hp := sortI_pw l
    rw [List.pairwise_append, List.pairwise_append]
    refine ⟨⟨hp.sublist (List.take_sublist _ _), by simp, fun a ha b hb => ?_⟩, hp.sublist (List.drop_sublist _ _), fun a ha b hb => ?_⟩
    · simp at hb; subst hb; exact h1 a ha
    · rcases List.mem_append.1 ha with ha | ha
      · have := List.take_append_drop k (sortI l)
        rw [← this, List.pairwise_append] at hp
        exact hp.2.2 a ha b hb
      · simp at ha; subst ha; exact h2 b hb
theorem sorted_le {s : List Int} (hs : s.Pairwise (· ≤ ·)) {i j : Nat} (hij : i ≤ j) (hj : j < s.length) : s[i]'(by omega) ≤ s[j] := by
  rcases Nat.lt_or_ge i j with h | h
  · exact List.pairwise_iff_getElem.1 hs i j (by omega) hj h
  · have : i = j := by omega
    subst this; exact Int.le_refl _
/-- How many are below. -/
def belowN (l : List Int) (n : Int) : Nat := l.countP fun x => decide (x < n)
theorem belowN_le (l : List Int) (n : Int) : belowN l n ≤ l.length := List.countP_le_length
theorem belowN_succ {l : List Int} {j : Nat} (h : j < l.length) (n : Int) : belowN (l.take (j + 1)) n = belowN (l.take j) n + if l[j] < n then 1 else 0 := by
  unfold belowN
  rw [List.take_succ_eq_append_getElem h, List.countP_append]
  congr 1
  by_cases hx : l[j] < n <;> simp [hx]
theorem belowN_sort (l : List Int) (n : Int) : belowN (sortI l) n = belowN l n := (sortI_perm l).countP_eq _
theorem belowN_at : ∀ (s : List Int) (_ : s.Pairwise (· ≤ ·)) (n : Int) (i : Nat) (h : i < s.length), s[i] < n ↔ i < belowN s n
  | [], _, _, i, h => by simp at h
  | x :: s, hs, n, 0, h => by
    rw [List.pairwise_cons] at hs
    simp only [List.getElem_cons_zero, belowN, List.countP_cons]
    constructor
    · intro hx; simp [hx]
    · intro hp
      rcases Int.lt_or_le x n with hx | hx
      · exact hx
      · exfalso
        have h0 : s.countP (fun x => decide (x < n)) = 0 := List.countP_eq_zero.2 (fun y hy => by have := hs.1 y hy; simp; omega)
        have hn : ¬ x < n := by omega
        rw [h0] at hp
        simp [hn] at hp
  | x :: s, hs, n, i + 1, h => by
    rw [List.pairwise_cons] at hs
    have ih := belowN_at s hs.2 n i (by simpa using h)
    simp only [List.getElem_cons_succ, belowN, List.countP_cons]
    rcases Int.lt_or_le x n with hx | hx
    · rw [ih]; simp [hx, belowN]
    · have h0 : s.countP (fun x => decide (x < n)) = 0 := List.countP_eq_zero.2 (fun y hy => by have := hs.1 y hy; simp; omega)
      have h1 := hs.1 (s[i]'(by simpa using h)) (List.getElem_mem _)
      simp only [h0]
      constructor
      · intro _; omega
      · intro hp
        exfalso
        have : ¬ x < n := by omega
        simp [this] at hp
/-- The marks. -/
def marksI (l : List Int) : List Int := if l.length = 0 then [] else (List.range 9).map fun i => (sortI l).getD (i * (l.length - 1) / 8) 0
theorem marksI_nil {l : List Int} (h : l.length = 0) : marksI l = [] := if_pos h
theorem marksI_len {l : List Int} (h : ¬ l.length = 0) : (marksI l).length = 9 := by simp [marksI, h]
theorem marks_place {n i : Nat} (hn : ¬ n = 0) (hi : i < 9) : i * (n - 1) / 8 < n := by
  have h1 : i * (n - 1) ≤ 8 * (n - 1) := Nat.mul_le_mul_right _ (by omega)
  have h2 : i * (n - 1) / 8 ≤ 8 * (n - 1) / 8 := Nat.div_le_div_right h1
  rw [Nat.mul_div_cancel_left _ (by decide)] at h2
  omega
theorem marksI_at {l : List Int} (h : ¬ l.length = 0) {i : Nat} (hi : i < 9) : (marksI l)[i]? = some ((sortI l)[i * (l.length - 1) / 8]'(by rw [sortI_len]; exact marks_place h hi)) := by
  simp only [marksI, if_neg h, List.getElem?_map]
  rw [List.getElem?_range hi]
  simp only [Option.map_some, List.getD]
  rw [List.getElem?_eq_getElem (by rw [sortI_len]; exact marks_place h hi)]
  rfl
theorem marksI_pw (l : List Int) : (marksI l).Pairwise (· ≤ ·) := by
  by_cases h : l.length = 0
  · rw [marksI_nil h]; exact List.Pairwise.nil
  · rw [List.pairwise_iff_getElem]
    intro i j hi hj hij
    rw [marksI_len h] at hi hj
    have e1 := marksI_at h hi
    have e2 := marksI_at h hj
    rw [List.getElem?_eq_getElem (by rw [marksI_len h]; exact hi)] at e1
    rw [List.getElem?_eq_getElem (by rw [marksI_len h]; exact hj)] at e2
    injection e1 with e1
    injection e2 with e2
    rw [e1, e2]
    exact sorted_le (sortI_pw l) (Nat.div_le_div_right (Nat.mul_le_mul_right _ (by omega))) (by rw [sortI_len]; exact marks_place h hj)
theorem marks_below {l : List Int} (h : ¬ l.length = 0) (n : Int) {i : Nat} (hi : i < 9) : i < belowN (marksI l) n ↔ i * (l.length - 1) / 8 < belowN l n := by
  rw [← belowN_at (marksI l) (marksI_pw l) n i (by rw [marksI_len h]; exact hi), ← belowN_sort l n, ← belowN_at (sortI l) (sortI_pw l) n _ (by rw [sortI_len]; exact marks_place h hi)]
  have e1 := marksI_at h hi
  rw [List.getElem?_eq_getElem (by rw [marksI_len h]; exact hi)] at e1
  injection e1 with e1
  rw [e1]
theorem marks_zero (l : List Int) (n : Int) (h0 : belowN (marksI l) n = 0) : belowN l n = 0 := by
  by_cases h : l.length = 0
  · have := belowN_le l n; omega
  · have := marks_below h n (i := 0) (by decide)
    simp at this
    omega
theorem marks_nine (l : List Int) (n : Int) (h9 : belowN (marksI l) n = 9) : belowN l n = l.length := by
  by_cases h : l.length = 0
  · rw [marksI_nil h] at h9; simp [belowN] at h9
  · have h8 := (marks_below h n (i := 8) (by decide)).1 (by omega)
    rw [Nat.mul_div_cancel_left _ (by decide)] at h8
    have := belowN_le l n
    omega
theorem marks_between (l : List Int) (n : Int) (h0 : ¬ belowN (marksI l) n = 0) (h9 : ¬ belowN (marksI l) n = 9) :
    belowN (marksI l) n < 9 ∧ ¬ l.length = 0 ∧ (belowN (marksI l) n - 1) * (l.length - 1) / 8 < belowN l n ∧ belowN l n ≤ belowN (marksI l) n * (l.length - 1) / 8 := by
  by_cases h : l.length = 0
  · rw [marksI_nil h] at h0; simp [belowN] at h0
  · have hl := belowN_le (marksI l) n
    rw [marksI_len h] at hl
    refine ⟨by omega, h, (marks_below h n (by omega)).1 (by omega), ?_⟩
    have h2 := marks_below h n (i := belowN (marksI l) n) (by omega)
    omega
end Go.Proofs.YtbglmcebkpkccaaGreatDoor
