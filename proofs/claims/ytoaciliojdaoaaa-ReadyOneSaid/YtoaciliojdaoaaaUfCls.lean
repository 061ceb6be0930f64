/- Layer 6: all classes, in numbers: plain mathematics. No condition but that each class is told by its least number. -/
import Derived.Test.YtoaciliojdaoaaaUf5
namespace Go.Proofs.Ytoaciliojdaoaaa

/-- The numbers below m that tell a class; the numbers of a class; all classes, of the numbers below m. -/
def rootsL (m : Nat) (r : Nat → Nat) : List Nat := (List.range m).filter fun i => r i == i
def clsL (m : Nat) (r : Nat → Nat) (p : Nat) : List Nat := (List.range m).filter fun k => r k == p
def clsM (m : Nat) (r : Nat → Nat) : List (List Nat) := (rootsL m r).map (clsL m r)
/-- The classes whose least number is below i, of the numbers below n. -/
def clsA (i n : Nat) (r : Nat → Nat) : List (List Nat) := (rootsL i r).map (clsL n r)
theorem rootsL_in {m : Nat} {r : Nat → Nat} (h : r m = m) : rootsL (m + 1) r = rootsL m r ++ [m] := by
  unfold rootsL
  rw [List.range_succ, List.filter_append]
  simp [h]
theorem rootsL_out {m : Nat} {r : Nat → Nat} (h : r m ≠ m) : rootsL (m + 1) r = rootsL m r := by
  unfold rootsL
  rw [List.range_succ, List.filter_append]
  simp [h]
theorem rootsL_len (m : Nat) (r : Nat → Nat) : (rootsL m r).length = rootsN m r := by
  induction m with
  | zero => rfl
  | succ m ih =>
    show _ = rootsN m r + _
    by_cases h : r m = m
    · rw [rootsL_in h, if_pos h, List.length_append, ih]; rfl
    · rw [rootsL_out h, if_neg h, ih]; rfl
theorem rootsL_mem {m p : Nat} {r : Nat → Nat} (h : p ∈ rootsL m r) : p < m ∧ r p = p := by
  unfold rootsL at h
  simpa using h
theorem rootsL_at {m : Nat} {r : Nat → Nat} : ∀ {j q : Nat}, (rootsL m r)[j]? = some q → rootsN q r = j := by
  induction m with
  | zero => intro j q h; simp [rootsL] at h
  | succ m ih =>
    intro j q h
    by_cases hm : r m = m
    · rw [rootsL_in hm] at h
      by_cases hj : j < (rootsL m r).length
      · rw [List.getElem?_append_left hj] at h
        exact ih h
      · rw [List.getElem?_append_right (by omega)] at h
        have : j - (rootsL m r).length = 0 := by
          rcases Nat.eq_zero_or_pos (j - (rootsL m r).length) with e | e
          · exact e
          · rw [List.getElem?_eq_none (by simp only [List.length_singleton]; omega)] at h; cases h
        rw [this] at h
        injection h with h
        subst h
        rw [← rootsL_len]
        omega
    · rw [rootsL_out hm] at h
      exact ih h
theorem rootsN_mono {r : Nat → Nat} {a b : Nat} (h : a ≤ b) : rootsN a r ≤ rootsN b r := by
  induction b with
  | zero => obtain rfl : a = 0 := by omega
            exact Nat.le_refl _
  | succ b ih =>
    rcases Nat.lt_or_ge b a with h1 | h1
    · obtain rfl : a = b + 1 := by omega
      exact Nat.le_refl _
    · have := ih h1
      show _ ≤ rootsN b r + _
      omega
theorem rootsN_lt {r : Nat → Nat} {p m : Nat} (h : p < m) (hp : r p = p) : rootsN p r < rootsN m r := by
  have h1 : rootsN (p + 1) r = rootsN p r + 1 := by show _ + _ = _; rw [if_pos hp]
  have := rootsN_mono (r := r) (show p + 1 ≤ m by omega)
  omega
theorem rootsL_find {m p : Nat} {r : Nat → Nat} (h : p < m) (hp : r p = p) : (rootsL m r)[rootsN p r]? = some p := by
  have hl : rootsN p r < (rootsL m r).length := by rw [rootsL_len]; exact rootsN_lt h hp
  have hm : p ∈ rootsL m r := by unfold rootsL; simpa using ⟨h, hp⟩
  obtain ⟨j, hj, e⟩ := List.getElem_of_mem hm
  have h1 : (rootsL m r)[j]? = some p := by rw [List.getElem?_eq_getElem hj, e]
  rw [rootsL_at h1]
  exact h1
theorem clsM_len (m : Nat) (r : Nat → Nat) : (clsM m r).length = rootsN m r := by unfold clsM; rw [List.length_map, rootsL_len]
theorem clsL_in {m p : Nat} {r : Nat → Nat} (h : r m = p) : clsL (m + 1) r p = clsL m r p ++ [m] := by
  unfold clsL
  rw [List.range_succ, List.filter_append]
  simp [h]
theorem clsL_out {m p : Nat} {r : Nat → Nat} (h : r m ≠ p) : clsL (m + 1) r p = clsL m r p := by
  unfold clsL
  rw [List.range_succ, List.filter_append]
  simp [h]
theorem clsL_none {n i p : Nat} {r : Nat → Nat} (hl : Least n r) (hi : i ≤ n) (hp : i ≤ p) : clsL i r p = [] := by
  unfold clsL
  rw [List.filter_eq_nil_iff]
  intro k hk
  have hk := List.mem_range.1 hk
  have := hl.le k (by omega)
  simp only [beq_iff_eq]
  omega
theorem clsL_le (m p : Nat) (r : Nat → Nat) : (clsL m r p).length ≤ m := by
  unfold clsL
  refine Nat.le_trans (List.length_filter_le _ _) ?_
  simp
theorem clsM_root {n m : Nat} {r : Nat → Nat} (hl : Least n r) (hm : m < n) (h : r m = m) : clsM (m + 1) r = clsM m r ++ [[m]] := by
  unfold clsM
  rw [rootsL_in h, List.map_append]
  congr 1
  · refine List.map_congr_left fun p hp => ?_
    exact clsL_out (by have := (rootsL_mem hp).1; omega)
  · show [clsL (m + 1) r m] = _
    rw [clsL_in h, clsL_none hl (by omega) (Nat.le_refl _)]
    rfl
theorem clsM_at {m p : Nat} {r : Nat → Nat} (h : p < m) (hp : r p = p) : (clsM m r)[rootsN p r]? = some (clsL m r p) := by
  unfold clsM
  rw [List.getElem?_map, rootsL_find h hp]
  rfl
theorem clsM_step {m p : Nat} {r : Nat → Nat} (h : r m = p) (hp : p < m) (hpp : r p = p) : clsM (m + 1) r = (clsM m r).set (rootsN p r) (clsL m r p ++ [m]) := by
  apply List.ext_getElem?
  intro j
  unfold clsM
  rw [rootsL_out (by omega)]
  by_cases hj : j = rootsN p r
  · subst hj
    have hlt : rootsN p r < (List.map (clsL m r) (rootsL m r)).length := by rw [List.length_map, rootsL_len]; exact rootsN_lt hp hpp
    rw [List.getElem?_map, rootsL_find hp hpp, List.getElem?_set_self hlt]
    show some (clsL (m + 1) r p) = _
    rw [clsL_in h]
  · rw [List.getElem?_set_ne (Ne.symm hj), List.getElem?_map, List.getElem?_map]
    cases hq : (rootsL m r)[j]? with
    | none => rfl
    | some q =>
      show some _ = some _
      rw [clsL_out]
      intro e
      rw [h] at e
      subst e
      exact hj (rootsL_at hq).symm
theorem clsA_in {i n : Nat} {r : Nat → Nat} (h : r i = i) : clsA (i + 1) n r = clsA i n r ++ [clsL n r i] := by
  unfold clsA
  rw [rootsL_in h, List.map_append]
  rfl
theorem clsA_out {i n : Nat} {r : Nat → Nat} (h : r i ≠ i) : clsA (i + 1) n r = clsA i n r := by
  unfold clsA
  rw [rootsL_out h]
theorem clsA_len (i n : Nat) (r : Nat → Nat) : (clsA i n r).length = rootsN i r := by unfold clsA; rw [List.length_map, rootsL_len]
/-- The place of the last list that holds a number. -/
def hasA (l : List Nat) (a : Int) : Bool := l.any fun k => (k : Int) == a
theorem hasA_iff (l : List Nat) (a : Int) : hasA l a = true ↔ ∃ k : Nat, (k : Int) = a ∧ k ∈ l := by
  unfold hasA
  simp only [List.any_eq_true, beq_iff_eq]
  exact ⟨fun ⟨k, h1, h2⟩ => ⟨k, h2, h1⟩, fun ⟨k, h1, h2⟩ => ⟨k, h2, h1⟩⟩
def lastI (ll : List (List Nat)) (a : Int) : Nat → Int
  | 0 => -1
  | i + 1 => if hasA (ll.getD i []) a = true then i else lastI ll a i
def lastK (l : List Nat) (a : Int) (i : Nat) (d : Int) : Nat → Int
  | 0 => d
  | k + 1 => if (l.getD k 0 : Int) = a then i else lastK l a i d k
theorem lastK_end (l : List Nat) (a : Int) (i : Nat) (d : Int) : lastK l a i d l.length = if hasA l a = true then (i : Int) else d := by
  have H : ∀ n, n ≤ l.length → lastK l a i d n = if hasA (l.take n) a = true then (i : Int) else d := by
    intro n
    induction n with
    | zero => intro _; simp [lastK, hasA]
    | succ n ih =>
      intro hn
      have hn' : n < l.length := by omega
      rw [lastK, ih (by omega), List.take_succ_eq_append_getElem hn']
      have e : l.getD n 0 = l[n] := by rw [List.getD_eq_getElem?_getD, List.getElem?_eq_getElem hn']; rfl
      rw [e]
      by_cases h1 : (l[n] : Int) = a
      · rw [if_pos h1, if_pos ((hasA_iff _ _).2 ⟨l[n], h1, List.mem_append_right _ (List.mem_singleton.2 rfl)⟩)]
      · rw [if_neg h1]
        have e2 : hasA (l.take n ++ [l[n]]) a = hasA (l.take n) a := by
          unfold hasA
          rw [List.any_append]
          simp [h1]
        rw [e2]
  have := H l.length (Nat.le_refl _)
  rwa [List.take_length] at this
/-- Its class's place. -/
def numI (n : Nat) (r : Nat → Nat) (a : Int) : Int := if 0 ≤ a ∧ a < n then rootsN (r a.toNat) r else -1
theorem lastI_all {n : Nat} {r : Nat → Nat} (hl : Least n r) (a : Int) : lastI (clsM n r) a (clsM n r).length = numI n r a := by
  have hat : ∀ i q, (rootsL n r)[i]? = some q → (clsM n r).getD i [] = clsL n r q := fun i q h => by
    unfold clsM
    rw [List.getD_eq_getElem?_getD, List.getElem?_map, h]
    rfl
  have hmem : ∀ q (k : Nat), k ∈ clsL n r q ↔ k < n ∧ r k = q := fun q k => by unfold clsL; simp
  have H : ∀ i, i ≤ (rootsL n r).length → lastI (clsM n r) a i = if 0 ≤ a ∧ a < n ∧ rootsN (r a.toNat) r < i then (rootsN (r a.toNat) r : Int) else -1 := by
    intro i
    induction i with
    | zero => intro _; rw [if_neg (by omega)]; rfl
    | succ i ih =>
      intro hi
      have hq : (rootsL n r)[i]? = some (rootsL n r)[i] := List.getElem?_eq_getElem hi
      have e := hat i _ hq
      have e2 := rootsL_at hq
      rw [lastI, ih (by omega), e]
      generalize (rootsL n r)[i] = q at *
      by_cases h1 : hasA (clsL n r q) a = true
      · rw [if_pos h1]
        obtain ⟨k, rfl, hk⟩ := (hasA_iff _ _).1 h1
        have hk := (hmem q k).1 hk
        rw [Int.toNat_natCast, hk.2, e2, if_pos (by omega)]
      · rw [if_neg h1]
        by_cases h2 : 0 ≤ a ∧ a < n
        · obtain ⟨k, rfl⟩ := Int.eq_ofNat_of_zero_le h2.1
          rw [Int.toNat_natCast]
          have hk : k < n := by omega
          have hne : r k ≠ q := fun e => h1 ((hasA_iff _ _).2 ⟨k, rfl, (hmem q k).2 ⟨hk, e⟩⟩)
          have hne2 : rootsN (r k) r ≠ i := fun e3 => by
            have h5 := rootsL_find (m := n) (r := r) (p := r k) (by have := hl.le k hk; omega) (hl.idem k hk)
            rw [e3, hq] at h5
            injection h5 with h5
            exact hne h5.symm
          by_cases h3 : rootsN (r k) r < i
          · rw [if_pos (by omega), if_pos (by omega)]
          · rw [if_neg (by omega), if_neg (by omega)]
        · rw [if_neg (by omega), if_neg (by omega)]
  rw [clsM_len, ← rootsL_len, H _ (Nat.le_refl _)]
  unfold numI
  by_cases h2 : 0 ≤ a ∧ a < n
  · obtain ⟨k, rfl⟩ := Int.eq_ofNat_of_zero_le h2.1
    rw [Int.toNat_natCast]
    have hk : k < n := by omega
    have := rootsN_lt (r := r) (p := r k) (m := n) (by have := hl.le k hk; omega) (hl.idem k hk)
    rw [if_pos h2, if_pos (by rw [rootsL_len]; omega)]
  · rw [if_neg h2, if_neg (by omega)]
end Go.Proofs.Ytoaciliojdaoaaa
