/- Layer 33: in which order all may go on: plain mathematics. No condition. -/
import Derived.Test.YtfdjnhnchibejaaRdy2
namespace Go.Proofs.Ytfdjnhnchibejaa

theorem thB_on {l : List Bool} {i k : Nat} (hi : i < l.length) : thB (l.set i true) k = (thB l k || (k == i)) := by
  unfold thB
  rw [List.getD_eq_getElem?_getD, List.getD_eq_getElem?_getD, List.getElem?_set]
  by_cases e : i = k
  · subst e
    simp [hi]
  · rw [if_neg e]
    have : (k == i) = false := by simpa using fun e' => e e'.symm
    rw [this, Bool.or_false]
/-- May a pipe go on? -/
def rdyN (nd : List (List Int)) (d : List Bool) (t : Nat) : Bool := !(thB d t) && (edgeAt nd t).all fun x => thI nd.length d x
def stepR (nd : List (List Int)) (d : List Bool) : Option Nat := (List.range nd.length).find? (rdyN nd d)
def ordS (nd : List (List Int)) : Nat → List Nat × List Bool
  | 0 => ([], List.replicate nd.length false)
  | k + 1 => match stepR nd (ordS nd k).2 with
    | none => ordS nd k
    | some t => ((ordS nd k).1 ++ [t], (ordS nd k).2.set t true)
theorem ordS_none {nd : List (List Int)} {k : Nat} (hs : stepR nd (ordS nd k).2 = none) : ordS nd (k + 1) = ordS nd k := by
  show (match stepR nd (ordS nd k).2 with | none => ordS nd k | some t => ((ordS nd k).1 ++ [t], (ordS nd k).2.set t true)) = _
  rw [hs]
theorem ordS_some {nd : List (List Int)} {k t : Nat} (hs : stepR nd (ordS nd k).2 = some t) : ordS nd (k + 1) = ((ordS nd k).1 ++ [t], (ordS nd k).2.set t true) := by
  show (match stepR nd (ordS nd k).2 with | none => ordS nd k | some t => ((ordS nd k).1 ++ [t], (ordS nd k).2.set t true)) = _
  rw [hs]
theorem stepR_inv {nd : List (List Int)} {d : List Bool} {t : Nat} (hs : stepR nd d = some t) : t < nd.length ∧ rdyN nd d t = true ∧ ∀ j, j < t → rdyN nd d j = false := by
  unfold stepR at hs
  rw [List.find?_range_eq_some] at hs
  exact ⟨List.mem_range.1 hs.2.1, hs.1, fun j hj => by simpa using hs.2.2 j hj⟩
theorem stepR_none {nd : List (List Int)} {d : List Bool} (hs : stepR nd d = none) : ∀ j, j < nd.length → rdyN nd d j = false := by
  unfold stepR at hs
  rw [List.find?_range_eq_none] at hs
  exact fun j hj => by simpa using hs j hj
theorem ordS_dlen (nd : List (List Int)) (k : Nat) : (ordS nd k).2.length = nd.length := by
  induction k with
  | zero => simp [ordS]
  | succ k ih =>
    cases hs : stepR nd (ordS nd k).2 with
    | none => rw [ordS_none hs]; exact ih
    | some t => rw [ordS_some hs]; simpa using ih
theorem rdyN_inv {nd : List (List Int)} {d : List Bool} {t : Nat} (h : rdyN nd d t = true) : thB d t = false ∧ ∀ x ∈ edgeAt nd t, ∃ z : Nat, x = (z : Int) ∧ z < nd.length ∧ thB d z = true := by
  unfold rdyN at h
  rw [Bool.and_eq_true, List.all_eq_true] at h
  exact ⟨by simpa using h.1, fun x hx => by
    obtain ⟨z, h1, h2, h3⟩ := thI_in (h.2 x hx)
    exact ⟨z, h1, h2, h3⟩⟩
structure OrdI (nd : List (List Int)) (l : List Nat) (d : List Bool) : Prop where
  nodup : l.Nodup
  mem : ∀ t, t ∈ l ↔ t < nd.length ∧ thB d t = true
  needs : ∀ (j : Nat) (hj : j < l.length), ∀ x ∈ edgeAt nd l[j], ∃ z : Nat, x = (z : Int) ∧ z < nd.length ∧ z ∈ l.take j
theorem ordInv (nd : List (List Int)) (k : Nat) : OrdI nd (ordS nd k).1 (ordS nd k).2 := by
  induction k with
  | zero =>
    refine ⟨List.nodup_nil, fun t => ⟨fun h => (by cases h), fun h => ?_⟩, fun j hj => by simp [ordS] at hj⟩
    exfalso
    have h2 : thB (List.replicate nd.length false) t = true := h.2
    have h3 := thB_lt h2
    rw [thB_at h3] at h2
    simp at h2
  | succ k ih =>
    cases hs : stepR nd (ordS nd k).2 with
    | none => rw [ordS_none hs]; exact ih
    | some t =>
      obtain ⟨ht, hr, _⟩ := stepR_inv hs
      obtain ⟨h1, h2⟩ := rdyN_inv hr
      have hdl := ordS_dlen nd k
      rw [ordS_some hs]
      generalize (ordS nd k).1 = l at *
      generalize (ordS nd k).2 = d at *
      have hnot : t ∉ l := fun hm => by
        have := ((ih.mem t).1 hm).2
        rw [h1] at this; cases this
      refine ⟨?_, fun x => ?_, fun j hj x hx => ?_⟩
      · rw [List.nodup_append]
        exact ⟨ih.nodup, by simp, fun a ha b hb e => by simp at hb; subst hb; subst e; exact hnot ha⟩
      · rw [List.mem_append, ih.mem, thB_on (by omega), Bool.or_eq_true, beq_iff_eq, List.mem_singleton]
        constructor
        · rintro (h | h)
          · exact ⟨h.1, Or.inl h.2⟩
          · subst h; exact ⟨ht, Or.inr rfl⟩
        · rintro ⟨h3, h4 | h4⟩
          · exact Or.inl ⟨h3, h4⟩
          · exact Or.inr h4
      · simp only at hj hx ⊢
        by_cases hjl : j < l.length
        · rw [List.getElem_append_left hjl] at hx
          obtain ⟨z, z1, z2, z3⟩ := ih.needs j hjl x hx
          exact ⟨z, z1, z2, by rw [List.take_append_of_le_length (by omega)]; exact z3⟩
        · have hje : j = l.length := by simp at hj; omega
          subst hje
          rw [List.getElem_append_right (Nat.le_refl _)] at hx
          simp at hx
          obtain ⟨z, z1, z2, z3⟩ := h2 x hx
          exact ⟨z, z1, z2, by rw [List.take_append_of_le_length (Nat.le_refl _), List.take_length]; exact (ih.mem z).2 ⟨z2, z3⟩⟩
theorem ordS_le (nd : List (List Int)) (k : Nat) : (ordS nd k).1.length ≤ nd.length := by
  have I := ordInv nd k
  have := I.nodup.length_le_of_subset (l₂ := List.range nd.length) fun p hp => List.mem_range.2 ((I.mem p).1 hp).1
  simpa using this
theorem ordS_stop {nd : List (List Int)} {k : Nat} (hs : stepR nd (ordS nd k).2 = none) (m : Nat) : ordS nd (k + m) = ordS nd k := by
  induction m with
  | zero => rfl
  | succ m ih =>
    have : stepR nd (ordS nd (k + m)).2 = none := by rw [ih]; exact hs
    rw [← Nat.add_assoc, ordS_none this, ih]
theorem ordS_end {nd : List (List Int)} {k : Nat} (hl : (ordS nd k).1.length = k) (hs : stepR nd (ordS nd k).2 = none) : ordS nd nd.length = ordS nd k := by
  have := ordS_le nd k
  have e := ordS_stop hs (nd.length - k)
  rwa [show k + (nd.length - k) = nd.length by omega] at e
/-- Those that are left. -/
def LL (n : Nat) (d : List Bool) : List Int := ((List.range n).filter fun t => !(thB d t)).map fun (t : Nat) => (t : Int)
theorem LL_mem {n : Nat} {d : List Bool} {x : Int} : x ∈ LL n d ↔ ∃ t : Nat, x = (t : Int) ∧ t < n ∧ thB d t = false := by
  unfold LL
  rw [List.mem_map]
  constructor
  · rintro ⟨t, ht, rfl⟩
    rw [List.mem_filter] at ht
    exact ⟨t, rfl, List.mem_range.1 ht.1, by simpa using ht.2⟩
  · rintro ⟨t, rfl, h1, h2⟩
    exact ⟨t, List.mem_filter.2 ⟨List.mem_range.2 h1, by rw [h2]; rfl⟩, rfl⟩
theorem bh_rdy {nd : List (List Int)} {d : List Bool} {t : Nat} (h : thB d t = false) : bhI nd (LL nd.length d) t = rdyN nd d t := by
  unfold bhI rdyN
  rw [h, Bool.not_false, Bool.true_and]
  congr 1
  funext x
  unfold thI
  by_cases h1 : 0 ≤ x ∧ x < nd.length
  · obtain ⟨h1, h2⟩ := h1
    rw [decide_eq_true h1, decide_eq_true h2]
    obtain ⟨z, rfl⟩ : ∃ z : Nat, x = (z : Int) := ⟨x.toNat, by omega⟩
    rw [Int.toNat_natCast]
    cases hz : thB d z
    · rw [decide_eq_true (LL_mem.2 ⟨z, rfl, by omega, hz⟩)]
      rfl
    · rw [decide_eq_false (fun hm => by
        obtain ⟨y, e, _, hy⟩ := LL_mem.1 hm
        have : y = z := by omega
        subst this
        rw [hz] at hy; cases hy)]
      rfl
  · by_cases h3 : 0 ≤ x
    · rw [decide_eq_false (fun h => h1 ⟨h3, h⟩)]; simp
    · rw [decide_eq_false h3]; simp
def nxtR (o : Option Nat) : Int := match o with | some t => (t : Int) | none => -1
theorem wfI_nat {n : Nat} (h : n ≤ 1000000) : wfI (n : Int) := by
  unfold wfI
  have h1 : Go.IntKind.i64.min = -9223372036854775808 := by decide
  have h2 : Go.IntKind.i64.max = 9223372036854775807 := by decide
  simp only [Go.Lit.wf, h1, h2, Bool.and_eq_true, decide_eq_true_eq]
  omega
theorem lst_next {nd : List (List Int)} {d : List Bool} (hn : nd.length ≤ 1000) {out : Int} (P : LstP (LL nd.length d) (fun x => bhI nd (LL nd.length d) x.toNat) (fun _ => false) out) : out = nxtR (stepR nd d) := by
  obtain ⟨f, hf⟩ : ∃ f, (fun x : Int => bhI nd (LL nd.length d) x.toNat) = f := ⟨_, rfl⟩
  have key : ∀ t : Nat, t < nd.length → thB d t = false → f (t : Int) = rdyN nd d t := fun t _ h => by
    rw [← hf]
    show bhI nd (LL nd.length d) ((t : Int).toNat) = _
    rw [Int.toNat_natCast, bh_rdy h]
  rw [hf] at P
  clear hf
  cases hs : stepR nd d with
  | none =>
    have hno := stepR_none hs
    rcases P with ⟨e, _⟩ | ⟨_, h2, h3, _⟩
    · exact e
    · obtain ⟨t, rfl, h4, h5⟩ := LL_mem.1 h2
      rw [key t h4 h5, hno t h4] at h3
      cases h3
  | some t =>
    obtain ⟨h1, h2, h3⟩ := stepR_inv hs
    have h4 := (rdyN_inv h2).1
    have hm : (t : Int) ∈ LL nd.length d := LL_mem.2 ⟨t, rfl, h1, h4⟩
    rcases P with ⟨_, hno⟩ | ⟨_, g2, g3, g4⟩
    · have := hno t (wfI_nat (by omega)) hm rfl
      rw [key t h1 h4, h2] at this
      cases this
    · obtain ⟨z, rfl, g5, g6⟩ := LL_mem.1 g2
      rw [key z g5 g6] at g3
      have g7 := g4 t (wfI_nat (by omega)) hm rfl (by rw [key t h1 h4]; exact h2)
      have : ¬ z < t := fun h => by rw [h3 z h] at g3; cases g3
      show (z : Int) = (t : Int)
      omega
/-- Levels: of the needs, and one more. -/
def maxL (lv : List Int) (e : List Int) : Int := e.foldl (fun h x => max h (lv.getD x.toNat 0)) 0
def lvS (nd : List (List Int)) (l : List Nat) : List Int := l.foldl (fun lv i => lv.set i (maxL lv (edgeAt nd i) + 1)) (List.replicate nd.length 0)
theorem lvS_snoc (nd : List (List Int)) (l : List Nat) (i : Nat) : lvS nd (l ++ [i]) = (lvS nd l).set i (maxL (lvS nd l) (edgeAt nd i) + 1) := by
  unfold lvS
  rw [List.foldl_append]
  rfl
theorem lvS_len (nd : List (List Int)) (l : List Nat) : (lvS nd l).length = nd.length := by
  unfold lvS
  have : ∀ (l : List Nat) (lv : List Int), (l.foldl (fun lv i => lv.set i (maxL lv (edgeAt nd i) + 1)) lv).length = lv.length := by
    intro l
    induction l with
    | nil => intro lv; rfl
    | cons a t ih => intro lv; rw [List.foldl_cons, ih]; simp
  rw [this]; simp
end Go.Proofs.Ytfdjnhnchibejaa
