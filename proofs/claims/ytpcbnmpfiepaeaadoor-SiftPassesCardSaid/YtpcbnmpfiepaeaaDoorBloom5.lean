/- Layer 18: what was put passes, whatever else was, in whatever order: plain mathematics. No condition. -/
import Derived.Test.YtpcbnmpfiepaeaaDoorBloom4
namespace Go.Proofs.YtpcbnmpfiepaeaaDoor

/-- The bits that some numbers have in one word. -/
def orM (n k : Nat) : List Nat → Nat → Nat
  | [], _ => 0
  | x :: l, i => (if buckN x n = i then maskN x k else 0) ||| orM n k l i
theorem orM_append (n k : Nat) (a b : List Nat) (i : Nat) : orM n k (a ++ b) i = orM n k a i ||| orM n k b i := by
  induction a with
  | nil => simp [orM]
  | cons x a ih => show _ ||| orM n k (a ++ b) i = (_ ||| orM n k a i) ||| _; rw [ih, Nat.or_assoc]
theorem set_getD (ws : List Nat) (b v i : Nat) (hb : b < ws.length) : (ws.set b v).getD i 0 = if b = i then v else ws.getD i 0 := by
  rw [List.getD_eq_getElem?_getD, List.getD_eq_getElem?_getD, List.getElem?_set]
  by_cases e : b = i
  · subst e; simp [hb]
  · simp [e]
theorem addW_getD (ws : List Nat) (k : Nat) (l : List Nat) (h0 : 0 < ws.length) (i : Nat) : (addW ws k l).getD i 0 = ws.getD i 0 ||| orM ws.length k l i := by
  induction l generalizing ws with
  | nil => simp [addW, orM]
  | cons x l ih =>
    show (addW (addN ws k x) k l).getD i 0 = _
    rw [ih (addN ws k x) (by rw [addN_len]; exact h0), addN_len]
    show _ = ws.getD i 0 ||| ((if buckN x ws.length = i then maskN x k else 0) ||| orM ws.length k l i)
    rw [← Nat.or_assoc]
    congr 1
    unfold addN
    have hb : buckN x ws.length < ws.length := Nat.mod_lt _ h0
    rw [set_getD _ _ _ _ hb]
    by_cases e : buckN x ws.length = i
    · rw [if_pos e, if_pos e, e]
    · rw [if_neg e, if_neg e, Nat.or_zero]
theorem rep_getD (n i : Nat) : (List.replicate n 0).getD i 0 = 0 := by
  rw [List.getD_eq_getElem?_getD, List.getElem?_replicate]
  split <;> rfl
theorem getD_ext {a b : List Nat} (hl : a.length = b.length) (h : ∀ i, a.getD i 0 = b.getD i 0) : a = b := by
  apply List.ext_getElem hl
  intro i h1 h2
  have := h i
  rw [List.getD_eq_getElem?_getD, List.getD_eq_getElem?_getD, List.getElem?_eq_getElem h1, List.getElem?_eq_getElem h2] at this
  exact this
/-- The union of two rows of words, as far as it has gone. -/
def unionT (ws vs : List Nat) (j : Nat) : List Nat := (List.range ws.length).map fun i => if i < j then ws.getD i 0 ||| vs.getD i 0 else ws.getD i 0
theorem unionT_len (ws vs : List Nat) (j : Nat) : (unionT ws vs j).length = ws.length := by simp [unionT]
theorem unionT_zero (ws vs : List Nat) : unionT ws vs 0 = ws := by
  apply List.ext_getElem (unionT_len ws vs 0)
  intro i h1 h2
  simp [unionT, h2]
theorem unionT_get (ws vs : List Nat) (j i : Nat) (hi : i < ws.length) : (unionT ws vs j)[i]? = some (if i < j then ws.getD i 0 ||| vs.getD i 0 else ws.getD i 0) := by
  unfold unionT
  rw [List.getElem?_map, List.getElem?_range hi]
  rfl
theorem unionT_set (ws vs : List Nat) (j : Nat) (hj : j < ws.length) : (unionT ws vs j).set j (ws.getD j 0 ||| vs.getD j 0) = unionT ws vs (j + 1) := by
  apply List.ext_getElem?
  intro i
  rw [List.getElem?_set, unionT_len]
  by_cases hi : i < ws.length
  · rw [unionT_get ws vs (j + 1) i hi]
    by_cases e : j = i
    · subst e
      rw [if_pos rfl, if_pos hj, if_pos (by omega)]
    · rw [if_neg e, unionT_get ws vs j i hi]
      by_cases e2 : i < j
      · rw [if_pos e2, if_pos (by omega)]
      · rw [if_neg e2, if_neg (by omega)]
  · have h1 : (unionT ws vs j)[i]? = none := List.getElem?_eq_none (by rw [unionT_len]; omega)
    have h2 : (unionT ws vs (j + 1))[i]? = none := List.getElem?_eq_none (by rw [unionT_len]; omega)
    rw [h1, h2, if_neg (by omega)]
def unionW (ws vs : List Nat) : List Nat := unionT ws vs ws.length
theorem unionW_getD (ws vs : List Nat) (hl : ws.length = vs.length) (i : Nat) : (unionW ws vs).getD i 0 = ws.getD i 0 ||| vs.getD i 0 := by
  by_cases hi : i < ws.length
  · rw [List.getD_eq_getElem?_getD]
    unfold unionW
    rw [unionT_get ws vs _ i hi, if_pos hi]
    rfl
  · have e1 : (unionW ws vs)[i]? = none := List.getElem?_eq_none (by unfold unionW; rw [unionT_len]; omega)
    rw [List.getD_eq_getElem?_getD, List.getD_eq_getElem?_getD, List.getD_eq_getElem?_getD, e1, List.getElem?_eq_none (by omega), List.getElem?_eq_none (by omega)]
    rfl
theorem getD_lt {ws : List Nat} (hw : wordsOk ws) (i : Nat) : ws.getD i 0 < 18446744073709551616 := by
  rw [List.getD_eq_getElem?_getD]
  cases he : ws[i]? with
  | none => show 0 < _; decide
  | some y => exact hw y (List.mem_of_getElem? he)
theorem unionT_ok {ws vs : List Nat} (hw : wordsOk ws) (hv : wordsOk vs) (j : Nat) : wordsOk (unionT ws vs j) := by
  intro x hx
  unfold unionT at hx
  obtain ⟨i, _, rfl⟩ := List.mem_map.1 hx
  split
  · exact Nat.or_lt_two_pow (n := 64) (getD_lt hw i) (getD_lt hv i)
  · exact getD_lt hw i
theorem unionW_comm (ws vs : List Nat) (hl : ws.length = vs.length) : unionW ws vs = unionW vs ws := by
  refine getD_ext (by unfold unionW; rw [unionT_len, unionT_len, hl]) (fun i => ?_)
  rw [unionW_getD ws vs hl, unionW_getD vs ws hl.symm, Nat.or_comm]
theorem union_all (n k : Nat) (h0 : 0 < n) (a b : List Nat) : unionW (addW (List.replicate n 0) k a) (addW (List.replicate n 0) k b) = addW (List.replicate n 0) k (b ++ a) := by
  have hr : 0 < (List.replicate n 0).length := by simpa using h0
  refine getD_ext ?_ (fun i => ?_)
  · unfold unionW; rw [unionT_len, addW_len, addW_len]
  · rw [unionW_getD _ _ (by rw [addW_len, addW_len]), addW_getD _ _ _ hr, addW_getD _ _ _ hr, addW_getD _ _ _ hr, rep_getD, Nat.zero_or, Nat.zero_or, Nat.zero_or, orM_append, Nat.or_comm]
theorem orM_mem (n k : Nat) (l : List Nat) (x : Nat) (hx : x ∈ l) : orM n k l (buckN x n) &&& maskN x k = maskN x k := by
  induction l with
  | nil => cases hx
  | cons y l ih =>
    show ((if buckN y n = buckN x n then maskN y k else 0) ||| orM n k l (buckN x n)) &&& maskN x k = maskN x k
    rw [Nat.and_or_distrib_right]
    rcases List.mem_cons.1 hx with h | h
    · subst h
      rw [if_pos rfl, Nat.and_self]
      apply Nat.eq_of_testBit_eq
      intro i
      simp only [Nat.testBit_or, Nat.testBit_and]
      cases (maskN x k).testBit i <;> simp
    · rw [ih h]
      apply Nat.eq_of_testBit_eq
      intro i
      simp only [Nat.testBit_or, Nat.testBit_and]
      cases (maskN x k).testBit i <;> simp
theorem has_or {p q m : Nat} (h : q &&& m = m) : (p ||| q) &&& m = m := by
  rw [Nat.and_or_distrib_right, h]
  apply Nat.eq_of_testBit_eq
  intro i
  simp only [Nat.testBit_or, Nat.testBit_and]
  cases m.testBit i <;> simp
theorem has_added (n k : Nat) (h0 : 0 < n) (l : List Nat) (x : Nat) (hx : x ∈ l) : hasN (addW (List.replicate n 0) k l) k x = true := by
  have hr : 0 < (List.replicate n 0).length := by simpa using h0
  unfold hasN
  rw [beq_iff_eq, addW_len, addW_getD _ _ _ hr, List.length_replicate]
  exact has_or (orM_mem n k l x hx)
theorem has_union (n k : Nat) (h0 : 0 < n) (a b : List Nat) (x : Nat) (hx : x ∈ a) : hasN (unionW (addW (List.replicate n 0) k a) (addW (List.replicate n 0) k b)) k x = true := by
  rw [union_all n k h0]
  exact has_added n k h0 _ x (by simp [hx])
end Go.Proofs.YtpcbnmpfiepaeaaDoor
