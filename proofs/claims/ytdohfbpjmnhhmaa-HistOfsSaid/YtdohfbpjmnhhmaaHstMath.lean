/- Layer 27: what is true of a table: plain mathematics. No condition. -/
import Derived.Test.YtdohfbpjmnhhmaaStat2
import Derived.Test.YtdohfbpjmnhhmaaTab3
namespace Go.Proofs.Ytdohfbpjmnhhmaa

theorem vl_ext {a b : Vl} (h1 : a.k = b.k) (h2 : a.i = b.i) (h3 : a.s = b.s) : a = b := by
  cases a; cases b; simp_all
instance vl_dec : DecidableEq Vl := fun a b =>
  if h : a.k = b.k ∧ a.i = b.i ∧ a.s = b.s then isTrue (vl_ext h.1 h.2.1 h.2.2) else isFalse fun e => h (by subst e; exact ⟨rfl, rfl, rfl⟩)
/-- The values at a place. -/
def colV (rows : List (List Vl)) (c : Nat) : List Vl := rows.map fun r => r.getD c default
theorem colV_len (rows : List (List Vl)) (c : Nat) : (colV rows c).length = rows.length := by unfold colV; rw [List.length_map]
theorem colV_at {rows : List (List Vl)} {c j : Nat} (h : j < rows.length) : (colV rows c)[j]'(by rw [colV_len]; exact h) = rows[j].getD c default := by simp [colV]
def nullN (l : List Vl) : Nat := l.countP fun v => v.k == 0
def numbL (l : List Vl) : List Int := (l.filter fun v => v.k == 1).map Vl.i
def metStep (m : List Vl) (v : Vl) : List Vl := if v.k = 0 ∨ v ∈ m then m else m ++ [v]
def metL (l : List Vl) : List Vl := l.foldl metStep []
def colC (l : List Vl) : Cst := ⟨(metL l).length, nullN l, marksI (numbL l)⟩
def colsC (t : Tb) (n : Nat) : List Cst := (List.range n).map fun c => colC (colV t.rows c)
def ofS (t : Tb) : Sst := ⟨t.rows.length, colsC t t.cols.length⟩
theorem colsC_len (t : Tb) (n : Nat) : (colsC t n).length = n := by simp [colsC]
theorem colsC_snoc (t : Tb) (n : Nat) : colsC t (n + 1) = colsC t n ++ [colC (colV t.rows n)] := by simp [colsC, List.range_succ]
theorem metL_snoc (l : List Vl) (v : Vl) : metL (l ++ [v]) = metStep (metL l) v := by simp [metL, List.foldl_append]
theorem metL_null {l : List Vl} {v : Vl} (h : v.k = 0) : metL (l ++ [v]) = metL l := by rw [metL_snoc, metStep, if_pos (Or.inl h)]
theorem metL_old {l : List Vl} {v : Vl} (h : v ∈ metL l) : metL (l ++ [v]) = metL l := by rw [metL_snoc, metStep, if_pos (Or.inr h)]
theorem metL_new {l : List Vl} {v : Vl} (h0 : v.k ≠ 0) (h : v ∉ metL l) : metL (l ++ [v]) = metL l ++ [v] := by
  rw [metL_snoc, metStep, if_neg]
  rintro (h1 | h1)
  · exact h0 h1
  · exact h h1
theorem nullN_null {l : List Vl} {v : Vl} (h : v.k = 0) : nullN (l ++ [v]) = nullN l + 1 := by simp [nullN, h]
theorem nullN_not {l : List Vl} {v : Vl} (h : v.k ≠ 0) : nullN (l ++ [v]) = nullN l := by simp [nullN, h]
theorem numbL_num {l : List Vl} {v : Vl} (h : v.k = 1) : numbL (l ++ [v]) = numbL l ++ [v.i] := by simp [numbL, h]
theorem numbL_not {l : List Vl} {v : Vl} (h : v.k ≠ 1) : numbL (l ++ [v]) = numbL l := by simp [numbL, h]
theorem numbL_len (l : List Vl) : (numbL l).length ≤ l.length := by
  unfold numbL
  rw [List.length_map]
  exact List.length_filter_le _ _
theorem met_some (l : List Vl) : ∀ m : List Vl, (l.foldl metStep m).length + nullN l ≤ m.length + l.length := by
  induction l with
  | nil => intro m; simp [nullN]
  | cons v t ih =>
    intro m
    have h := ih (metStep m v)
    have e : nullN (v :: t) = nullN t + if v.k = 0 then 1 else 0 := by
      unfold nullN
      rw [List.countP_cons]
      by_cases hv : v.k = 0 <;> simp [hv]
    have h2 : (metStep m v).length + (if v.k = 0 then 1 else 0) ≤ m.length + 1 := by
      unfold metStep
      by_cases hv : v.k = 0
      · rw [if_pos (Or.inl hv), if_pos hv]; omega
      · rw [if_neg hv]
        split
        · omega
        · simp
    rw [List.foldl_cons, e, List.length_cons]
    omega
theorem metL_le (l : List Vl) : (metL l).length + nullN l ≤ l.length := by
  have := met_some l []
  unfold metL
  simpa using this
theorem metL_mem {l : List Vl} : ∀ (m : List Vl) {v : Vl}, v ∈ l.foldl metStep m → v ∈ m ∨ v ∈ l := by
  induction l with
  | nil => intro m v h; exact Or.inl h
  | cons x t ih =>
    intro m v h
    rcases ih (metStep m x) h with h1 | h1
    · unfold metStep at h1
      split at h1
      · exact Or.inl h1
      · rcases List.mem_append.1 h1 with h2 | h2
        · exact Or.inl h2
        · rw [List.mem_singleton] at h2
          subst h2
          exact Or.inr (by simp)
    · exact Or.inr (by simp [h1])
theorem metL_in {l : List Vl} {v : Vl} (h : v ∈ metL l) : v ∈ l := by
  rcases metL_mem [] h with h1 | h1
  · cases h1
  · exact h1
theorem heldC_of {l : List Vl} {n : Nat} (h : l.length = n) : heldC n (colC l) = colC l := by
  have h1 := metL_le l
  have e1 : nearI (nullN l : Int) (n : Int) = nullN l := nearI_self (by omega) (by omega)
  refine Cst.ext' ?_ e1 ?_
  · show nearI ((metL l).length : Int) ((n : Int) - nearI (nullN l : Int) (n : Int)) = (metL l).length
    rw [e1]
    exact nearI_self (by omega) (by omega)
  · show sortI ((marksI (numbL l)).take 9) = marksI (numbL l)
    rw [List.take_of_length_le]
    · exact (sortI_uniq (List.Perm.refl _) (marksI_pw _)).symm
    · by_cases hn : (numbL l).length = 0
      · rw [marksI_nil hn]; exact Nat.zero_le _
      · rw [marksI_len hn]; exact Nat.le_refl _
theorem marksI_le (l : List Int) : (marksI l).length ≤ 9 := by
  by_cases hn : l.length = 0
  · rw [marksI_nil hn]; exact Nat.zero_le _
  · rw [marksI_len hn]; exact Nat.le_refl _
theorem ofS_small (t : Tb) : ∀ x ∈ (ofS t).cols, x.m.length ≤ 9 := by
  intro x hx
  obtain ⟨c, _, rfl⟩ := List.mem_map.1 hx
  exact marksI_le _
/-- What is true of a table may be said of it. -/
theorem ofS_held (t : Tb) (hr : t.rows.length ≤ 1000000) (hc : t.cols.length ≤ 16) : heldS (ofS t) t.cols.length = ofS t := by
  have e0 : cutI ((t.rows.length : Nat) : Int) = t.rows.length := cutI_self ⟨by omega, by omega⟩
  refine Sst.ext' e0 ?_
  show heldP (ofS t) (heldN t.cols.length) = colsC t t.cols.length
  have e1 : heldN (t.cols.length : Int) = t.cols.length := by
    unfold heldN
    rw [nearI_self (by omega) (by omega)]
    rfl
  rw [e1]
  unfold heldP colsC
  refine List.map_congr_left fun c hcm => ?_
  have hc' : c < t.cols.length := by simpa using hcm
  have e2 : colAt (ofS t) c = colC (colV t.rows c) := by
    show (colsC t t.cols.length).getD c default = _
    rw [List.getD_eq_getElem?_getD, List.getElem?_eq_getElem (by rw [colsC_len]; exact hc')]
    simp [colsC]
  have e3 : cutI (ofS t).rows = ((t.rows.length : Nat) : Int) := e0
  rw [e2, e3]
  exact heldC_of (colV_len _ _)
end Go.Proofs.Ytdohfbpjmnhhmaa
