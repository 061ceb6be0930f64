/- Layer 6: whose class a number is in does not hang on the order of the joins: plain mathematics. No condition. -/
import Derived.Test.YtchogpdfdpbpfaaPlay
namespace Go.Proofs.Ytchogpdfdpbpfaa

/-- Two numbers hang together by some pairs. -/
inductive Conn (n : Nat) (l : List (Int × Int)) : Nat → Nat → Prop
  | refl (i : Nat) : Conn n l i i
  | pair (p : Int × Int) (h : p ∈ l) (hi : inB n p.1 p.2) : Conn n l p.1.toNat p.2.toNat
  | symm {i j : Nat} (h : Conn n l i j) : Conn n l j i
  | trans {i j k : Nat} (h : Conn n l i j) (h' : Conn n l j k) : Conn n l i k
theorem Conn.mono {n : Nat} {l l' : List (Int × Int)} (hll : ∀ p ∈ l, p ∈ l' ∨ (p.2, p.1) ∈ l') {i j : Nat} (h : Conn n l i j) : Conn n l' i j := by
  induction h with
  | refl i => exact .refl i
  | pair p hp hi =>
    rcases hll p hp with h | h
    · exact .pair p h hi
    · exact .symm (.pair (p.2, p.1) h (by unfold inB at hi ⊢; simp only; omega))
  | symm _ ih => exact .symm ih
  | trans _ _ ih ih' => exact .trans ih ih'
theorem foldR_snoc (n : Nat) (l : List (Int × Int)) (p : Int × Int) : foldR n (l ++ [p]) = joinI n (foldR n l) p.1 p.2 := by
  unfold foldR
  rw [List.foldl_append]
  rfl
theorem snoc_ind {α : Type} {M : List α → Prop} (h0 : M []) (h1 : ∀ l x, M l → M (l ++ [x])) (l : List α) : M l := by
  have h : ∀ k : Nat, k ≤ l.length → M (l.take k) := by
    intro k
    induction k with
    | zero => intro _; rw [List.take_zero]; exact h0
    | succ k ih =>
      intro hk
      rw [List.take_succ_eq_append_getElem (by omega)]
      exact h1 _ _ (ih (by omega))
  have := h l.length (Nat.le_refl _)
  rwa [List.take_length] at this
theorem foldR_least (n : Nat) (l : List (Int × Int)) : Least n (foldR n l) := by
  induction l using snoc_ind with
  | h0 => exact ⟨fun i _ => Nat.le_refl i, fun _ _ => rfl⟩
  | h1 l p ih => rw [foldR_snoc]; exact ih.joinI _ _
theorem foldR_conn (n : Nat) (l : List (Int × Int)) : ∀ i j, foldR n l i = foldR n l j → Conn n l i j := by
  induction l using snoc_ind with
  | h0 =>
    intro i j h
    have : i = j := h
    subst this
    exact .refl i
  | h1 l p ih =>
    have ih' : ∀ i j, foldR n l i = foldR n l j → Conn n (l ++ [p]) i j := fun i j h => (ih i j h).mono (fun q hq => Or.inl (by simp [hq]))
    intro i j h
    rw [foldR_snoc] at h
    unfold joinI at h
    by_cases hi : inB n p.1 p.2
    · rw [if_pos hi] at h
      have hp : Conn n (l ++ [p]) p.1.toNat p.2.toNat := .pair p (by simp) hi
      unfold joinR at h
      rcases Nat.le_total (foldR n l p.1.toNat) (foldR n l p.2.toNat) with h7 | h7
      · rw [Nat.max_eq_right h7, Nat.min_eq_left h7] at h
        split at h <;> split at h <;> rename_i e1 e2
        · exact ih' i j (by omega)
        · exact (ih' i _ e1).trans (hp.symm.trans (ih' _ j h))
        · exact (ih' i _ h).trans (hp.trans (ih' _ j e2.symm))
        · exact ih' i j h
      · rw [Nat.max_eq_left h7, Nat.min_eq_right h7] at h
        split at h <;> split at h <;> rename_i e1 e2
        · exact ih' i j (by omega)
        · exact (ih' i _ e1).trans (hp.trans (ih' _ j h))
        · exact (ih' i _ h).trans (hp.symm.trans (ih' _ j e2.symm))
        · exact ih' i j h
    · rw [if_neg hi] at h
      exact ih' i j h
theorem foldR_pair (n : Nat) (l : List (Int × Int)) : ∀ p ∈ l, inB n p.1 p.2 → foldR n l p.1.toNat = foldR n l p.2.toNat := by
  induction l using snoc_ind with
  | h0 => intro p hp; cases hp
  | h1 l q ih =>
    intro p hp hi
    rw [foldR_snoc]
    unfold joinI
    rcases List.mem_append.1 hp with h | h
    · have := ih p h hi
      split
      · unfold joinR
        rw [this]
      · exact this
    · simp only [List.mem_singleton] at h
      subst h
      rw [if_pos hi]
      unfold joinR
      rcases Nat.le_total (foldR n l p.1.toNat) (foldR n l p.2.toNat) with h7 | h7
      · rw [Nat.max_eq_right h7, Nat.min_eq_left h7, if_pos rfl]
        split <;> omega
      · rw [Nat.max_eq_left h7, Nat.min_eq_right h7, if_pos rfl]
        split <;> omega
theorem foldR_of_conn (n : Nat) (l : List (Int × Int)) {i j : Nat} (h : Conn n l i j) : foldR n l i = foldR n l j := by
  induction h with
  | refl i => rfl
  | pair p hp hi => exact foldR_pair n l p hp hi
  | symm _ ih => exact ih.symm
  | trans _ _ ih ih' => exact ih.trans ih'
/-- The same classes, whatever the order. -/
theorem foldR_order (n : Nat) (l l' : List (Int × Int)) (h1 : ∀ p ∈ l, p ∈ l' ∨ (p.2, p.1) ∈ l') (h2 : ∀ p ∈ l', p ∈ l ∨ (p.2, p.1) ∈ l) (i : Nat) (hi : i < n) : foldR n l i = foldR n l' i := by
  have a := foldR_least n l
  have b := foldR_least n l'
  have k1 : foldR n l' (foldR n l i) = foldR n l' i := foldR_of_conn n l' ((foldR_conn n l _ _ (a.idem i hi)).mono h1)
  have k2 : foldR n l (foldR n l' i) = foldR n l i := foldR_of_conn n l ((foldR_conn n l' _ _ (b.idem i hi)).mono h2)
  have a1 := a.le i hi
  have b1 := b.le i hi
  have k3 := b.le (foldR n l i) (by omega)
  have k4 := a.le (foldR n l' i) (by omega)
  omega
theorem findI_congr {n : Nat} {r r' : Nat → Nat} (h : ∀ i, i < n → r i = r' i) (a : Int) : findI n r a = findI n r' a := by
  unfold findI
  split
  · rw [h _ (by omega)]
  · rfl
theorem sameB_congr {n : Nat} {r r' : Nat → Nat} (h : ∀ i, i < n → r i = r' i) (a b : Int) : sameB n r a b = sameB n r' a b := by
  unfold sameB
  rw [findI_congr h, findI_congr h]
theorem sameB_symm (n : Nat) (r : Nat → Nat) (a b : Int) : sameB n r a b = sameB n r b a := by
  unfold sameB
  by_cases h : findI n r a = findI n r b
  · rw [h]
  · rw [beq_eq_false_iff_ne.2 h, beq_eq_false_iff_ne.2 (fun e => h e.symm), Bool.and_false, Bool.and_false]
theorem sameB_trans (n : Nat) (r : Nat → Nat) {a b d : Int} (h1 : sameB n r a b = true) (h2 : sameB n r b d = true) : sameB n r a d = true := by
  unfold sameB at *
  simp only [Bool.and_eq_true, decide_eq_true_eq, beq_iff_eq] at *
  exact ⟨h1.1, h1.2.trans h2.2⟩
end Go.Proofs.Ytchogpdfdpbpfaa
