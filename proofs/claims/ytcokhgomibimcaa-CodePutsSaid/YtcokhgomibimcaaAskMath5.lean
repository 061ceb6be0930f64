/- Layer 39: what is put is got: plain mathematics. -/
import Derived.Test.YtcokhgomibimcaaAskMath4
namespace Go.Proofs.Ytcokhgomibimcaa

theorem num_put (n : Int) (h : small64 n) (r : List Nat) (f : Bool) : numS (vb (zz n) ++ r, f) = (n, r, f) := by
  have h1 := numS_put (zz n) (zz_lt n h.1 h.2) r f
  rw [uz_zz] at h1
  exact h1
theorem ints_put (l : List Int) (h : ∀ n ∈ l, small64 n) (hl : l.length ≤ 10000) (r : List Nat) (f : Bool) : intsS (vbs l ++ r, f) = (l, r, f) := intsS_put l h (by omega) r f
theorem col_put (c : ColS) (h : okC c) (r : List Nat) (f : Bool) : colS (putC c ++ r, f) = (c, r, f) := by
  obtain ⟨h1, h2, h3, h4⟩ := h
  have e1 : numS (putC c ++ r, f) = (c.u, (vb (zz c.n) ++ vbs c.m) ++ r, f) := by
    unfold putC
    rw [List.append_assoc]
    exact num_put c.u h1 _ f
  have e2 : numS ((vb (zz c.n) ++ vbs c.m) ++ r, f) = (c.n, vbs c.m ++ r, f) := by
    rw [List.append_assoc]
    exact num_put c.n h2 _ f
  unfold colS
  rw [e1]
  simp only
  rw [e2]
  simp only
  rw [ints_put c.m h3 h4]
theorem cols_put (l : List ColS) (h : ∀ c ∈ l, okC c) (r : List Nat) (f : Bool) : ∀ j, j ≤ l.length → colsS j (putCs l ++ r, f) = (l.take j, putCs (l.drop j) ++ r, f) := by
  intro j
  induction j with
  | zero => intro _; simp [colsS]
  | succ j ih =>
    intro hj
    have h1 := ih (by omega)
    have h2 : l.drop j = l[j] :: l.drop (j + 1) := List.drop_eq_getElem_cons (by omega)
    have h4 := col_put l[j] (h _ (List.getElem_mem (by omega))) (putCs (l.drop (j + 1)) ++ r) f
    have e : putCs (l.drop j) ++ r = putC l[j] ++ (putCs (l.drop (j + 1)) ++ r) := by
      rw [h2]
      unfold putCs
      rw [List.map_cons, List.flatten_cons, List.append_assoc]
    unfold colsS
    rw [h1]
    simp only
    rw [e, h4, List.take_succ_eq_append_getElem (by omega)]
theorem cnt_put (n : Nat) (hn : n ≤ 10000) (r : List Nat) (f : Bool) (hr : n ≤ r.length) : cntS (vb (zz n) ++ r, f) = (n, r, f) := by
  have h1 := num_put (n : Int) ⟨by omega, by omega⟩ r f
  unfold cntS
  rw [h1, if_neg (by simp only; omega)]
  simp
theorem putC_pos (c : ColS) : 1 ≤ (putC c).length := by
  unfold putC
  rw [List.length_append]
  have := vb_len (zz c.u)
  omega
theorem putT_pos (s : StatS) : 1 ≤ (putT s).length := by
  unfold putT
  rw [List.length_append]
  have := vb_len (zz s.rows)
  omega
theorem putCs_len (l : List ColS) : l.length ≤ (putCs l).length := by
  induction l with
  | nil => simp
  | cons c l ih =>
    unfold putCs at ih ⊢
    rw [List.map_cons, List.flatten_cons, List.length_append, List.length_cons]
    have := putC_pos c
    omega
theorem putTs_len (l : List StatS) : l.length ≤ (putTs l).length := by
  induction l with
  | nil => simp
  | cons c l ih =>
    unfold putTs at ih ⊢
    rw [List.map_cons, List.flatten_cons, List.length_append, List.length_cons]
    have := putT_pos c
    omega
theorem stat_put (s : StatS) (h : okT s) (r : List Nat) (f : Bool) : statS (putT s ++ r, f) = (s, r, f) := by
  obtain ⟨h1, h2, h3⟩ := h
  have e1 : numS (putT s ++ r, f) = (s.rows, vb (zz s.cols.length) ++ (putCs s.cols ++ r), f) := by
    unfold putT
    rw [List.append_assoc, List.append_assoc]
    exact num_put s.rows h1 _ f
  have hlen := putCs_len s.cols
  have e2 : cntS (vb (zz s.cols.length) ++ (putCs s.cols ++ r), f) = (s.cols.length, putCs s.cols ++ r, f) := cnt_put _ h2 _ f (by rw [List.length_append]; omega)
  have e3 := cols_put s.cols h3 r f s.cols.length (Nat.le_refl _)
  unfold statS
  rw [e1]
  simp only
  rw [e2]
  simp only
  rw [e3, List.take_length, List.drop_length]
  rfl
theorem stats_put (l : List StatS) (h : ∀ c ∈ l, okT c) (r : List Nat) (f : Bool) : ∀ j, j ≤ l.length → statsS j (putTs l ++ r, f) = (l.take j, putTs (l.drop j) ++ r, f) := by
  intro j
  induction j with
  | zero => intro _; simp [statsS]
  | succ j ih =>
    intro hj
    have h1 := ih (by omega)
    have h2 : l.drop j = l[j] :: l.drop (j + 1) := List.drop_eq_getElem_cons (by omega)
    have h4 := stat_put l[j] (h _ (List.getElem_mem (by omega))) (putTs (l.drop (j + 1)) ++ r) f
    have e : putTs (l.drop j) ++ r = putT l[j] ++ (putTs (l.drop (j + 1)) ++ r) := by
      rw [h2]
      unfold putTs
      rw [List.map_cons, List.flatten_cons, List.append_assoc]
    unfold statsS
    rw [h1]
    simp only
    rw [e, h4, List.take_succ_eq_append_getElem (by omega)]
theorem opt_put (o : OptS) (h : okO o) (r : List Nat) (f : Bool) : optS (putO o ++ r, f) = (o, r, f) := by
  obtain ⟨h0, h1, h2, h3, h4, h5⟩ := h
  have e : putO o ++ r = vb (zz o.o0) ++ (vb (zz o.o1) ++ (vb (zz o.o2) ++ (vb (zz o.o3) ++ (vb (zz o.o4) ++ (vb (zz o.o5) ++ r))))) := by
    unfold putO
    simp [List.append_assoc]
  rw [e]
  exact opt6 _ _ _ _ _ _ _ (num_put _ h0 _ f) (num_put _ h1 _ f) (num_put _ h2 _ f) (num_put _ h3 _ f) (num_put _ h4 _ f) (num_put _ h5 _ f)
theorem getA_put (a : AskS) (h : okA a) : getA (putA a) = (a, 0) := by
  obtain ⟨h1, h2, h3, h4, h5, h6⟩ := h
  have hf : small64 (forceI a.force) := small_force _
  have q1 : g1 (putA a) = (forceI a.force, putO a.o ++ (vbs a.picks ++ (vb (zz a.stats.length) ++ putTs a.stats)), false) := by
    rewrite [g1_eq]
    have e := num_put (forceI a.force) hf (putO a.o ++ (vbs a.picks ++ (vb (zz a.stats.length) ++ putTs a.stats))) false
    have e' : numS (putA a, false) = (forceI a.force, putO a.o ++ (vbs a.picks ++ (vb (zz a.stats.length) ++ putTs a.stats)), false) := e
    unfold forceS
    rewrite [e']
    refine if_neg ?_
    cases a.force
    · exact fun h => h.1 rfl
    · exact fun h => h.2 rfl
  have q2 : g2 (putA a) = (a.o, vbs a.picks ++ (vb (zz a.stats.length) ++ putTs a.stats), false) := by
    rewrite [g2_eq, q1]
    exact opt_put a.o h3 _ false
  have q3 : g3 (putA a) = (a.picks, vb (zz a.stats.length) ++ putTs a.stats, false) := by
    rewrite [g3_eq, q2]
    exact ints_put a.picks h4 h5 _ false
  have q4 : g4 (putA a) = (a.stats.length, putTs a.stats, false) := by
    rewrite [g4_eq, q3]
    exact cnt_put _ h2 _ false (putTs_len _)
  have q5 : g5 (putA a) = (a.stats, [], false) := by
    rewrite [g5_eq, q4]
    have e := stats_put a.stats h1 [] false a.stats.length (Nat.le_refl _)
    rw [List.append_nil, List.append_nil, List.take_length, List.drop_length] at e
    exact e
  unfold getA
  rewrite [getS_eq, q5, q1, q2, q3]
  refine (if_neg ?_).trans ?_
  · simp
  · obtain ⟨ts, f, o, pk⟩ := a
    cases f <;> rfl
end Go.Proofs.Ytcokhgomibimcaa
