/- Values as triples, their order, and the least and the greatest of a list: plain mathematics. No condition. -/
import Derived.Test.YtpcbnmpfiepaeaaDoorLawVal
import Derived.Test.YtpcbnmpfiepaeaaDoorCmpB
namespace Go.Proofs.YtpcbnmpfiepaeaaDoor
open Go.RowKit

structure V where
  k : Int
  i : Int
  s : ByteArray
def zeroV : V := ⟨0, 0, ⟨#[]⟩⟩
def vc (v : V) : List Value := [.int .i64 v.k, .int .i64 v.i, .string v.s]
def va (v : V) : Value := .agg #[.int .i64 v.k, .int .i64 v.i, .string v.s]
def ord (a b : V) : Int := ordV a.k a.i a.s b.k b.i b.s
theorem ord_anti (a b : V) : ord a b = -ord b a := by
  unfold ord ordV
  by_cases h1 : a.k = b.k
  · rw [if_pos h1, if_pos h1.symm]
    by_cases h2 : a.i = b.i
    · rw [if_pos h2, if_pos h2.symm]; exact cmpB_anti _ _
    · rw [if_neg h2, if_neg (fun e => h2 e.symm)]; exact ordI_anti _ _
  · rw [if_neg h1, if_neg (fun e => h1 e.symm)]; exact ordI_anti _ _
theorem ord_three (a b : V) : ord a b = -1 ∨ ord a b = 0 ∨ ord a b = 1 := by
  unfold ord ordV ordI
  have := cmpB_three a.s.data.toList b.s.data.toList
  (repeat' split) <;> omega
theorem ord_self (a : V) : ord a a = 0 := by have := ord_anti a a; omega
theorem ord_trans (a b c : V) (h1 : ord a b ≤ 0) (h2 : ord b c ≤ 0) : ord a c ≤ 0 := by
  unfold ord ordV at *
  have h := cmpB_trans a.s.data.toList b.s.data.toList c.s.data.toList
  unfold ordI at *
  by_cases e1 : a.k = b.k
  · by_cases e2 : b.k = c.k
    · rw [if_pos e1] at h1; rw [if_pos e2] at h2; rw [if_pos (e1.trans e2)]
      by_cases e3 : a.i = b.i
      · by_cases e4 : b.i = c.i
        · rw [if_pos e3] at h1; rw [if_pos e4] at h2; rw [if_pos (e3.trans e4)]; exact h h1 h2
        · rw [if_neg e4] at h2; rw [if_neg (by omega)]; (repeat' split at h2) <;> (repeat' split) <;> omega
      · rw [if_neg e3] at h1
        by_cases e4 : b.i = c.i
        · rw [if_neg (by omega)]; (repeat' split at h1) <;> (repeat' split) <;> omega
        · rw [if_neg e4] at h2
          by_cases e5 : a.i = c.i
          · exfalso; (repeat' split at h1) <;> (repeat' split at h2) <;> omega
          · rw [if_neg e5]; (repeat' split at h1) <;> (repeat' split at h2) <;> (repeat' split) <;> omega
    · rw [if_neg e2] at h2; rw [if_neg (by omega)]; (repeat' split at h2) <;> (repeat' split) <;> omega
  · rw [if_neg e1] at h1
    by_cases e2 : b.k = c.k
    · rw [if_neg (by omega)]; (repeat' split at h1) <;> (repeat' split) <;> omega
    · rw [if_neg e2] at h2
      by_cases e5 : a.k = c.k
      · exfalso; (repeat' split at h1) <;> (repeat' split at h2) <;> omega
      · rw [if_neg e5]; (repeat' split at h1) <;> (repeat' split at h2) <;> (repeat' split) <;> omega
theorem bytes_eq {s t : ByteArray} (h : s.data.toList = t.data.toList) : s = t := by
  obtain ⟨⟨a⟩⟩ := s
  obtain ⟨⟨b⟩⟩ := t
  have h4 : a = b := h
  rw [h4]
theorem ord_zero {a b : V} (h : ord a b = 0) : a = b := by
  obtain ⟨k, i, s⟩ := a
  obtain ⟨k', i', s'⟩ := b
  unfold ord ordV at h
  simp only at h
  by_cases e1 : k = k'
  · rw [if_pos e1] at h
    by_cases e2 : i = i'
    · rw [if_pos e2] at h
      rw [e1, e2, bytes_eq ((cmp_zero _ _).1 h)]
    · rw [if_neg e2] at h; exact absurd h (ordI_ne e2)
  · rw [if_neg e1] at h; exact absurd h (ordI_ne e1)
theorem ord_le_anti {a b : V} (h1 : ord a b ≤ 0) (h2 : ord b a ≤ 0) : a = b := ord_zero (by have := ord_anti a b; omega)

/-- The least and the greatest of some values, how many are not null, and how many are. -/
structure S where
  low : V
  high : V
  whole : Int
  nulls : Int
def zeroS : S := ⟨zeroV, zeroV, 0, 0⟩
def ofS (v : V) : S := if v.k = 0 then ⟨zeroV, zeroV, 0, 1⟩ else ⟨v, v, 1, 0⟩
def unionS (a b : S) : S := ⟨if a.whole = 0 ∨ (0 < b.whole ∧ ord b.low a.low < 0) then b.low else a.low, if a.whole = 0 ∨ (0 < b.whole ∧ 0 < ord b.high a.high) then b.high else a.high, a.whole + b.whole, a.nulls + b.nulls⟩
def addS (s : S) (l : List V) : S := l.foldl (fun s v => unionS s (ofS v)) s
theorem addS_append (s : S) (a b : List V) : addS (addS s a) b = addS s (a ++ b) := by unfold addS; rw [List.foldl_append]
theorem addS_take (s : S) (l : List V) (k : Nat) (h : k < l.length) : addS s (l.take (k + 1)) = unionS (addS s (l.take k)) (ofS l[k]) := by
  rw [List.take_succ_eq_append_getElem h]
  unfold addS
  rw [List.foldl_append]
  rfl
def nn (l : List V) : List V := l.filter fun v => v.k != 0
structure Is (l : List V) (s : S) : Prop where
  whole : s.whole = (nn l).length
  nulls : s.nulls = l.length - (nn l).length
  none : s.whole = 0 → s.low = zeroV ∧ s.high = zeroV
  low : 0 < s.whole → s.low ∈ nn l ∧ ∀ v ∈ nn l, ord s.low v ≤ 0
  high : 0 < s.whole → s.high ∈ nn l ∧ ∀ v ∈ nn l, ord v s.high ≤ 0
theorem Is.nil : Is [] zeroS := ⟨rfl, rfl, fun _ => ⟨rfl, rfl⟩, fun h => (by cases h), fun h => (by cases h)⟩
theorem Is.one (v : V) : Is [v] (ofS v) := by
  unfold ofS
  by_cases h : v.k = 0
  · rw [if_pos h]
    have e : nn [v] = [] := by simp [nn, h]
    exact ⟨by rw [e]; rfl, by rw [e]; rfl, fun _ => ⟨rfl, rfl⟩, fun h => (by cases h), fun h => (by cases h)⟩
  · rw [if_neg h]
    have e : nn [v] = [v] := by simp [nn, h]
    refine ⟨by rw [e]; rfl, by rw [e]; rfl, fun h => (by cases h), fun _ => ?_, fun _ => ?_⟩
    · rw [e]; exact ⟨by simp, fun u hu => by simp at hu; subst hu; have := ord_self u; show ord u u ≤ 0; omega⟩
    · rw [e]; exact ⟨by simp, fun u hu => by simp at hu; subst hu; have := ord_self u; show ord u u ≤ 0; omega⟩
theorem nn_append (a b : List V) : nn (a ++ b) = nn a ++ nn b := by unfold nn; rw [List.filter_append]
theorem nn_le (a : List V) : (nn a).length ≤ a.length := List.length_filter_le _ _
theorem Is.union {a b : List V} {s t : S} (h : Is a s) (k : Is b t) : Is (a ++ b) (unionS s t) := by
  have hs := h.whole
  have kt := k.whole
  refine ⟨?_, ?_, fun h0 => ?_, fun h0 => ?_, fun h0 => ?_⟩
  · show s.whole + t.whole = _; rw [nn_append, List.length_append]; omega
  · show s.nulls + t.nulls = _; rw [nn_append, List.length_append, List.length_append, h.nulls, k.nulls]; omega
  · have h0' : s.whole + t.whole = 0 := h0
    have e1 : s.whole = 0 := by omega
    unfold unionS
    simp only
    rw [if_pos (Or.inl e1), if_pos (Or.inl e1)]
    exact k.none (by omega)
  · have h0' : 0 < s.whole + t.whole := h0
    rw [nn_append]
    show (if s.whole = 0 ∨ (0 < t.whole ∧ ord t.low s.low < 0) then t.low else s.low) ∈ _ ∧ ∀ v ∈ _, ord (if s.whole = 0 ∨ (0 < t.whole ∧ ord t.low s.low < 0) then t.low else s.low) v ≤ 0
    by_cases e : s.whole = 0 ∨ (0 < t.whole ∧ ord t.low s.low < 0)
    · rw [if_pos e]
      have ht : 0 < t.whole := by omega
      obtain ⟨m1, m2⟩ := k.low ht
      refine ⟨List.mem_append_right _ m1, fun v hv => ?_⟩
      rcases List.mem_append.1 hv with hv | hv
      · have hsp : 0 < s.whole := by have := List.length_pos_of_mem hv; omega
        exact ord_trans _ _ _ (by rcases e with e | e <;> omega) ((h.low hsp).2 v hv)
      · exact m2 v hv
    · rw [if_neg e]
      have hsp : 0 < s.whole := by have : s.whole ≠ 0 := fun x => e (Or.inl x); omega
      obtain ⟨m1, m2⟩ := h.low hsp
      refine ⟨List.mem_append_left _ m1, fun v hv => ?_⟩
      rcases List.mem_append.1 hv with hv | hv
      · exact m2 v hv
      · have ht : 0 < t.whole := by have := List.length_pos_of_mem hv; omega
        have : ¬ ord t.low s.low < 0 := fun x => e (Or.inr ⟨ht, x⟩)
        exact ord_trans _ _ _ (by have := ord_anti s.low t.low; omega) ((k.low ht).2 v hv)
  · have h0' : 0 < s.whole + t.whole := h0
    rw [nn_append]
    show (if s.whole = 0 ∨ (0 < t.whole ∧ 0 < ord t.high s.high) then t.high else s.high) ∈ _ ∧ ∀ v ∈ _, ord v (if s.whole = 0 ∨ (0 < t.whole ∧ 0 < ord t.high s.high) then t.high else s.high) ≤ 0
    by_cases e : s.whole = 0 ∨ (0 < t.whole ∧ 0 < ord t.high s.high)
    · rw [if_pos e]
      have ht : 0 < t.whole := by omega
      obtain ⟨m1, m2⟩ := k.high ht
      refine ⟨List.mem_append_right _ m1, fun v hv => ?_⟩
      rcases List.mem_append.1 hv with hv | hv
      · have hsp : 0 < s.whole := by have := List.length_pos_of_mem hv; omega
        exact ord_trans _ _ _ ((h.high hsp).2 v hv) (by have := ord_anti s.high t.high; rcases e with e | e <;> omega)
      · exact m2 v hv
    · rw [if_neg e]
      have hsp : 0 < s.whole := by have : s.whole ≠ 0 := fun x => e (Or.inl x); omega
      obtain ⟨m1, m2⟩ := h.high hsp
      refine ⟨List.mem_append_left _ m1, fun v hv => ?_⟩
      rcases List.mem_append.1 hv with hv | hv
      · exact m2 v hv
      · have ht : 0 < t.whole := by have := List.length_pos_of_mem hv; omega
        have : ¬ 0 < ord t.high s.high := fun x => e (Or.inr ⟨ht, x⟩)
        exact ord_trans _ _ _ ((k.high ht).2 v hv) (by omega)
theorem Is.add {a : List V} {s : S} (h : Is a s) (l : List V) : Is (a ++ l) (addS s l) := by
  induction l generalizing a s with
  | nil => rw [List.append_nil]; exact h
  | cons v l ih =>
    have := ih (h.union (Is.one v))
    rw [List.append_assoc] at this
    exact this
theorem Is.of (l : List V) : Is l (addS zeroS l) := Is.nil.add l
theorem Is.same {a b : List V} {s t : S} (h : Is a s) (k : Is b t) (hl : a.length = b.length) (hn : (nn a).length = (nn b).length) (hm : ∀ v, v ∈ nn a ↔ v ∈ nn b) : s = t := by
  have e1 : s.whole = t.whole := by rw [h.whole, k.whole, hn]
  have e2 : s.nulls = t.nulls := by rw [h.nulls, k.nulls, hn, hl]
  by_cases h0 : s.whole = 0
  · have a1 := h.none h0
    have a2 := k.none (by omega)
    obtain ⟨sl, sh, sw, sn⟩ := s
    obtain ⟨tl, th, tw, tn⟩ := t
    simp only at *
    rw [a1.1, a1.2, a2.1, a2.2, e1, e2]
  · have hp : 0 < s.whole := by have := h.whole; omega
    have a1 := h.low hp
    have a2 := h.high hp
    have b1 := k.low (by omega)
    have b2 := k.high (by omega)
    have l1 : s.low = t.low := ord_le_anti (a1.2 _ ((hm _).2 b1.1)) (b1.2 _ ((hm _).1 a1.1))
    have l2 : s.high = t.high := ord_le_anti (b2.2 _ ((hm _).1 a2.1)) (a2.2 _ ((hm _).2 b2.1))
    obtain ⟨sl, sh, sw, sn⟩ := s
    obtain ⟨tl, th, tw, tn⟩ := t
    simp only at *
    rw [l1, l2, e1, e2]
/-- In whatever two parts. -/
theorem addS_union (a b : List V) : unionS (addS zeroS b) (addS zeroS a) = addS zeroS (a ++ b) := by
  refine Is.same ((Is.of b).union (Is.of a)) (Is.of (a ++ b)) (by simp; omega) (by rw [nn_append, nn_append]; simp; omega) (fun v => ?_)
  rw [nn_append, nn_append, List.mem_append, List.mem_append]
  exact Or.comm
/-- May a value be among them? -/
def hasS (s : S) (v : V) : Bool := if v.k = 0 then decide (0 < s.nulls) else decide (0 < s.whole ∧ 0 ≤ ord v s.low ∧ ord v s.high ≤ 0)
theorem hasS_mem (l : List V) (v : V) (h : v ∈ l) : hasS (addS zeroS l) v = true := by
  have hi := Is.of l
  unfold hasS
  by_cases h0 : v.k = 0
  · rw [if_pos h0]
    have : (nn l).length < l.length := by
      rcases Nat.lt_or_ge (nn l).length l.length with h1 | h1
      · exact h1
      · exfalso
        have h2 : (nn l).length = l.length := by have := nn_le l; omega
        have h3 := (List.filter_sublist (p := fun v : V => v.k != 0) (l := l)).eq_of_length h2
        have h4 : v ∈ l.filter (fun v : V => v.k != 0) := by rw [h3]; exact h
        simp [h0] at h4
    have := hi.nulls
    exact decide_eq_true (by omega)
  · rw [if_neg h0]
    have hm : v ∈ nn l := by unfold nn; rw [List.mem_filter]; exact ⟨h, by simpa using h0⟩
    have hp : 0 < (addS zeroS l).whole := by rw [hi.whole]; have := List.length_pos_of_mem hm; omega
    have h1 := (hi.low hp).2 v hm
    have h2 := (hi.high hp).2 v hm
    have h3 := ord_anti v (addS zeroS l).low
    exact decide_eq_true ⟨hp, by omega, h2⟩
end Go.Proofs.YtpcbnmpfiepaeaaDoor
