/- Layer 22: ears: plain mathematics. No condition. -/
import Derived.Test.YtfdjnhnchibejaaGG
namespace Go.Proofs.Ytfdjnhnchibejaa

def thB (l : List Bool) (k : Nat) : Bool := l.getD k false
theorem thB_lt {l : List Bool} {k : Nat} (h : thB l k = true) : k < l.length := by
  rcases Nat.lt_or_ge k l.length with h1 | h1
  · exact h1
  · unfold thB at h
    rw [List.getD_eq_getElem?_getD, List.getElem?_eq_none h1] at h
    cases h
theorem thB_at {l : List Bool} {k : Nat} (h : k < l.length) : thB l k = l[k] := by
  unfold thB
  rw [List.getD_eq_getElem?_getD, List.getElem?_eq_getElem h]
  rfl
theorem thB_set {l : List Bool} {i k : Nat} : thB (l.set i false) k = (thB l k && (k != i)) := by
  unfold thB
  rw [List.getD_eq_getElem?_getD, List.getD_eq_getElem?_getD, List.getElem?_set]
  by_cases e : i = k
  · subst e
    by_cases h : i < l.length
    · simp [h]
    · simp [h]
  · rw [if_neg e]
    have : (k != i) = true := by simpa using fun e' => e e'.symm
    rw [this, Bool.and_true]
/-- What one has in common with another that is there lies within a third. -/
def earOk (h : List (List Int)) (l : List Bool) (i p : Nat) : Bool :=
  (List.range h.length).all fun k => !(k != i && thB l k) || withinI (sharedI (edgeAt h i) (edgeAt h k)) (edgeAt h p)
theorem earOk_iff {h : List (List Int)} {l : List Bool} {i p : Nat} : earOk h l i p = true ↔ ∀ k, k < h.length → k ≠ i → thB l k = true → ∀ x, x ∈ edgeAt h i → x ∈ edgeAt h k → x ∈ edgeAt h p := by
  unfold earOk
  rw [List.all_eq_true]
  constructor
  · intro H k hk hki hl x h1 h2
    have := H k (List.mem_range.2 hk)
    have e : (k != i) = true := by simpa using hki
    rw [e, hl] at this
    simp only [Bool.and_self, Bool.not_true, Bool.false_or, withinI_iff] at this
    exact this x ((sharedI_mem _ _ _).2 ⟨h1, h2⟩)
  · intro H k hk
    by_cases e : k = i
    · subst e; simp
    · cases hl : thB l k
      · simp
      · have e' : (k != i) = true := by simpa using e
        rw [e']
        simp only [Bool.and_self, Bool.not_true, Bool.false_or, withinI_iff]
        intro x hx
        rw [sharedI_mem] at hx
        exact H k (List.mem_range.1 hk) e hl x hx.1 hx.2
def earQ (h : List (List Int)) (l : List Bool) (i p : Nat) : Bool := p != i && thB l p && earOk h l i p
/-- An ear's parent. -/
def earP (h : List (List Int)) (l : List Bool) (i : Nat) : Option Nat := if decide (i < h.length) && thB l i then (List.range h.length).find? (earQ h l i) else none
theorem find_someN {n k : Nat} {q : Nat → Bool} (hk : k < n) (hq : q k = true) (hb : ∀ j, j < k → q j = false) : (List.range n).find? q = some k := by
  rw [List.find?_range_eq_some]
  exact ⟨hq, List.mem_range.2 hk, fun j hj => by rw [hb j hj]; rfl⟩
theorem find_noneN {n : Nat} {q : Nat → Bool} (hb : ∀ j, j < n → q j = false) : (List.range n).find? q = none := by
  rw [List.find?_range_eq_none]
  exact fun j hj => by rw [hb j hj]; rfl
/-- All of the others, up to one. -/
def othI (h : List (List Int)) (l : List Bool) (i : Nat) : Nat → List Int
  | 0 => []
  | m + 1 => if m != i && thB l m then othI h l i m ++ edgeAt h m else othI h l i m
theorem othI_mem {h : List (List Int)} {l : List Bool} {i m : Nat} {x : Int} : x ∈ othI h l i m ↔ ∃ k, k < m ∧ k ≠ i ∧ thB l k = true ∧ x ∈ edgeAt h k := by
  induction m with
  | zero => simp [othI]
  | succ m ih =>
    unfold othI
    split
    · rename_i hc
      simp only [Bool.and_eq_true, bne_iff_ne, ne_eq] at hc
      rw [List.mem_append, ih]
      constructor
      · rintro (⟨k, h1, h2⟩ | h1)
        · exact ⟨k, by omega, h2⟩
        · exact ⟨m, by omega, hc.1, hc.2, h1⟩
      · rintro ⟨k, h1, h2, h3, h4⟩
        by_cases e : k = m
        · subst e; exact Or.inr h4
        · exact Or.inl ⟨k, by omega, h2, h3, h4⟩
    · rename_i hc
      rw [ih]
      constructor
      · rintro ⟨k, h1, h2⟩
        exact ⟨k, by omega, h2⟩
      · rintro ⟨k, h1, h2, h3, h4⟩
        refine ⟨k, ?_, h2, h3, h4⟩
        by_cases e : k = m
        · subst e
          refine absurd ?_ hc
          simp [h2, h3]
        · omega
theorem othI_len {h : List (List Int)} {l : List Bool} {i : Nat} (hl : ∀ e ∈ h, e.length ≤ 30) (m : Nat) : (othI h l i m).length ≤ m * 30 := by
  induction m with
  | zero => exact Nat.le_refl _
  | succ m ih =>
    have he : (edgeAt h m).length ≤ 30 := by
      unfold edgeAt
      rw [List.getD_eq_getElem?_getD]
      cases e : h[m]? with
      | none => exact Nat.zero_le _
      | some x => exact hl x (List.mem_of_getElem? e)
    unfold othI
    split
    · rw [List.length_append]; omega
    · omega
theorem oth_within (h : List (List Int)) (l : List Bool) (i p : Nat) : withinI (sharedI (edgeAt h i) (othI h l i h.length)) (edgeAt h p) = earOk h l i p := by
  rw [Bool.eq_iff_iff, withinI_iff, earOk_iff]
  constructor
  · intro H k hk hki hl x h1 h2
    exact H x ((sharedI_mem _ _ _).2 ⟨h1, othI_mem.2 ⟨k, hk, hki, hl, h2⟩⟩)
  · intro H x hx
    rw [sharedI_mem, othI_mem] at hx
    obtain ⟨h1, k, hk, hki, hl, h2⟩ := hx
    exact H k hk hki hl x h1 h2
/-- The next ear. -/
def stepE (h : List (List Int)) (l : List Bool) : Option (Nat × Nat) :=
  match (List.range h.length).find? fun i => (earP h l i).isSome with
  | none => none
  | some i => (earP h l i).map fun p => (i, p)
theorem stepE_some {h : List (List Int)} {l : List Bool} {i p : Nat} (hi : i < h.length) (hp : earP h l i = some p) (hb : ∀ j, j < i → earP h l j = none) : stepE h l = some (i, p) := by
  unfold stepE
  rw [find_someN hi (by rw [hp]; rfl) (fun j hj => by rw [hb j hj]; rfl)]
  simp [hp]
theorem stepE_none {h : List (List Int)} {l : List Bool} (hb : ∀ j, j < h.length → earP h l j = none) : stepE h l = none := by
  unfold stepE
  rw [find_noneN fun j hj => by rw [hb j hj]; rfl]
theorem stepE_inv {h : List (List Int)} {l : List Bool} {i p : Nat} (hs : stepE h l = some (i, p)) : i < h.length ∧ earP h l i = some p := by
  unfold stepE at hs
  split at hs
  · cases hs
  · rename_i k hk
    rw [List.find?_range_eq_some] at hk
    cases he : earP h l k with
    | none => rw [he] at hs; cases hs
    | some q =>
      rw [he] at hs
      simp only [Option.map_some] at hs
      injection hs with hs
      injection hs with h1 h2
      subst h1 h2
      exact ⟨List.mem_range.1 hk.2.1, he⟩
theorem earP_inv {h : List (List Int)} {l : List Bool} {i p : Nat} (he : earP h l i = some p) : i < h.length ∧ thB l i = true ∧ p < h.length ∧ p ≠ i ∧ thB l p = true ∧ earOk h l i p = true := by
  unfold earP at he
  split at he
  · rename_i hc
    rw [List.find?_range_eq_some] at he
    simp only [Bool.and_eq_true, decide_eq_true_eq] at hc
    obtain ⟨h1, h2, _⟩ := he
    unfold earQ at h1
    simp only [Bool.and_eq_true, bne_iff_ne, ne_eq] at h1
    exact ⟨hc.1, hc.2, List.mem_range.1 h2, h1.1.1, h1.1.2, h1.2⟩
  · cases he
/-- The ears, one after the other, and what is left. -/
def earsS (h : List (List Int)) : Nat → List (Nat × Nat) × List Bool
  | 0 => ([], List.replicate h.length true)
  | k + 1 => match stepE h (earsS h k).2 with
    | none => earsS h k
    | some (i, p) => ((earsS h k).1 ++ [(i, p)], (earsS h k).2.set i false)
theorem earsS_none {h : List (List Int)} {k : Nat} (hs : stepE h (earsS h k).2 = none) : earsS h (k + 1) = earsS h k := by
  show (match stepE h (earsS h k).2 with | none => earsS h k | some (i, p) => ((earsS h k).1 ++ [(i, p)], (earsS h k).2.set i false)) = _
  rw [hs]
theorem earsS_some {h : List (List Int)} {k i p : Nat} (hs : stepE h (earsS h k).2 = some (i, p)) : earsS h (k + 1) = ((earsS h k).1 ++ [(i, p)], (earsS h k).2.set i false) := by
  show (match stepE h (earsS h k).2 with | none => earsS h k | some (i, p) => ((earsS h k).1 ++ [(i, p)], (earsS h k).2.set i false)) = _
  rw [hs]
theorem earsS_len (h : List (List Int)) (k : Nat) : (earsS h k).2.length = h.length := by
  induction k with
  | zero => simp [earsS]
  | succ k ih =>
    cases hs : stepE h (earsS h k).2 with
    | none => rw [earsS_none hs]; exact ih
    | some q => rw [earsS_some hs]; simpa using ih
theorem count_off {l : List Bool} {i : Nat} (h : thB l i = true) : (l.set i false).count true + 1 = l.count true := by
  have hl := thB_lt h
  rw [thB_at hl] at h
  have h1 := List.count_set (a := false) (b := true) hl
  have h2 : 0 < l.count true := List.count_pos_iff.2 (by rw [← h]; exact List.getElem_mem hl)
  rw [h1, h]
  simp
  omega
theorem earsS_count (h : List (List Int)) (k : Nat) : (earsS h k).1.length + (earsS h k).2.count true = h.length := by
  induction k with
  | zero => simp [earsS]
  | succ k ih =>
    cases hs : stepE h (earsS h k).2 with
    | none => rw [earsS_none hs]; exact ih
    | some q =>
      rw [earsS_some hs]
      have := count_off (earP_inv (stepE_inv hs).2).2.1
      simp only [List.length_append, List.length_singleton]
      omega
theorem earsS_stop {h : List (List Int)} {k : Nat} (hs : stepE h (earsS h k).2 = none) (m : Nat) : earsS h (k + m) = earsS h k := by
  induction m with
  | zero => rfl
  | succ m ih =>
    have : stepE h (earsS h (k + m)).2 = none := by rw [ih]; exact hs
    rw [← Nat.add_assoc, earsS_none this, ih]
theorem earsS_end {h : List (List Int)} {k : Nat} (hl : (earsS h k).1.length = k) (hs : stepE h (earsS h k).2 = none) : earsS h h.length = earsS h k := by
  have := earsS_count h k
  have e := earsS_stop hs (h.length - k)
  rwa [show k + (h.length - k) = h.length by omega] at e
theorem earsS_le (h : List (List Int)) (k : Nat) : (earsS h k).1.length ≤ h.length := by
  have := earsS_count h k
  omega
/-- Which are left, in order. -/
def leftL (l : List Bool) : Nat → List Int
  | 0 => []
  | m + 1 => if thB l m then leftL l m ++ [(m : Int)] else leftL l m
theorem leftL_len (l : List Bool) (m : Nat) (hm : m ≤ l.length) : (leftL l m).length = (l.take m).count true := by
  induction m with
  | zero => simp [leftL]
  | succ m ih =>
    have hml : m < l.length := by omega
    unfold leftL
    rw [List.take_succ_eq_append_getElem hml, List.count_append, ← ih (by omega)]
    rw [thB_at hml]
    split
    · rename_i hc
      rw [hc]
      simp
    · rename_i hc
      have : l[m] = false := by simpa using hc
      rw [this]
      simp
def leftI (h : List (List Int)) : List Int := leftL (earsS h h.length).2 h.length
theorem leftI_len (h : List (List Int)) : (leftI h).length + (earsS h h.length).1.length = h.length := by
  unfold leftI
  rw [leftL_len _ _ (by rw [earsS_len]; exact Nat.le_refl _)]
  have h1 := earsS_count h h.length
  have h2 := earsS_len h h.length
  rw [List.take_of_length_le (by omega)]
  omega
end Go.Proofs.Ytfdjnhnchibejaa
