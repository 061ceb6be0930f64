/- Layer 39: a way to ask, as bytes: plain mathematics. No condition but that bytes are below 256, and numbers of 64 bits. -/
import Derived.Test.YtcokhgomibimcaaCodeMath6
namespace Go.Proofs.Ytcokhgomibimcaa

structure ColS where
  u : Int
  n : Int
  m : List Int
structure StatS where
  rows : Int
  cols : List ColS
structure OptS where
  o0 : Int
  o1 : Int
  o2 : Int
  o3 : Int
  o4 : Int
  o5 : Int
structure AskS where
  stats : List StatS
  force : Bool
  o : OptS
  picks : List Int
instance col_some : Inhabited ColS := ⟨⟨0, 0, []⟩⟩
instance stat_some : Inhabited StatS := ⟨⟨0, []⟩⟩

abbrev St := List Nat × Bool
def failS : St := ([], true)
/-- A column is read. -/
def colS (s : St) : ColS × St := (⟨(numS s).1, (numS (numS s).2).1, (intsS (numS (numS s).2).2).1⟩, (intsS (numS (numS s).2).2).2)
def colsS : Nat → St → List ColS × St
  | 0, s => ([], s)
  | k + 1, s => ((colsS k s).1 ++ [(colS (colsS k s).2).1], (colS (colsS k s).2).2)
def statS (s : St) : StatS × St := (⟨(numS s).1, (colsS (cntS (numS s).2).1 (cntS (numS s).2).2).1⟩, (colsS (cntS (numS s).2).1 (cntS (numS s).2).2).2)
def statsS : Nat → St → List StatS × St
  | 0, s => ([], s)
  | k + 1, s => ((statsS k s).1 ++ [(statS (statsS k s).2).1], (statS (statsS k s).2).2)
def optS (s : St) : OptS × St :=
  let a := numS s; let b := numS a.2; let c := numS b.2; let d := numS c.2; let e := numS d.2; let f := numS e.2
  (⟨a.1, b.1, c.1, d.1, e.1, f.1⟩, f.2)

/-- What reading leaves is a rest of what was there, and what has failed stays so. -/
structure Less (s t : St) : Prop where
  len : t.1.length ≤ s.1.length
  mem : ∀ x ∈ t.1, x ∈ s.1
  bad : s.2 = true → t.2 = true
theorem Less.refl (s : St) : Less s s := ⟨Nat.le_refl _, fun _ h => h, fun h => h⟩
theorem Less.trans {a b c : St} (h : Less a b) (k : Less b c) : Less a c := ⟨Nat.le_trans k.len h.len, fun x hx => h.mem x (k.mem x hx), fun hb => k.bad (h.bad hb)⟩
theorem Less.ok {s t : St} (h : Less s t) (hs : bytesOk s.1) : bytesOk t.1 := fun x hx => hs x (h.mem x hx)
theorem less_num (s : St) : Less s (numS s).2 := ⟨(numS_left s).1, (numS_left s).2, numS_failed⟩
theorem less_nums (k : Nat) (s : St) : Less s (numsS k s).2 := ⟨(numsS_left k s).1, (numsS_left k s).2, numsS_failed k⟩
theorem less_cnt (s : St) : Less s (cntS s).2 := ⟨(cntS_left s).1, (cntS_left s).2.1, cntS_failed⟩
theorem less_ints (s : St) : Less s (intsS s).2 := (less_cnt s).trans (less_nums _ _)
theorem less_col (s : St) : Less s (colS s).2 := ((less_num s).trans (less_num _)).trans (less_ints _)
theorem less_cols (k : Nat) (s : St) : Less s (colsS k s).2 := by
  induction k with
  | zero => exact Less.refl s
  | succ k ih => exact ih.trans (less_col _)
theorem less_stat (s : St) : Less s (statS s).2 := ((less_num s).trans (less_cnt _)).trans (less_cols _ _)
theorem less_stats (k : Nat) (s : St) : Less s (statsS k s).2 := by
  induction k with
  | zero => exact Less.refl s
  | succ k ih => exact ih.trans (less_stat _)
theorem less_opt (s : St) : Less s (optS s).2 := (((((less_num s).trans (less_num _)).trans (less_num _)).trans (less_num _)).trans (less_num _)).trans (less_num _)
theorem colsS_len (k : Nat) (s : St) : (colsS k s).1.length = k := by
  induction k with
  | zero => rfl
  | succ k ih => simp [colsS, ih]
theorem statsS_len (k : Nat) (s : St) : (statsS k s).1.length = k := by
  induction k with
  | zero => rfl
  | succ k ih => simp [statsS, ih]

/-- Behind the first number: whether all is to be done. -/
def forceS (s : St) : Int × St := if (numS s).1 ≠ 0 ∧ (numS s).1 ≠ 1 then ((numS s).1, failS) else ((numS s).1, (numS s).2)
theorem less_force (s : St) : Less s (forceS s).2 := by
  unfold forceS
  split
  · exact ⟨by simp [failS], by simp [failS], fun _ => rfl⟩
  · exact less_num s
/-- A way to ask; 7 if the bytes are none. -/
def g1 (l : List Nat) : Int × St := forceS (l, false)
def g2 (l : List Nat) : OptS × St := optS (g1 l).2
def g3 (l : List Nat) : List Int × St := intsS (g2 l).2
def g4 (l : List Nat) : Nat × St := cntS (g3 l).2
def g5 (l : List Nat) : List StatS × St := statsS (g4 l).1 (g4 l).2
theorem g1_eq (l : List Nat) : g1 l = forceS (l, false) := rfl
theorem g2_eq (l : List Nat) : g2 l = optS (g1 l).2 := rfl
theorem g3_eq (l : List Nat) : g3 l = intsS (g2 l).2 := rfl
theorem g4_eq (l : List Nat) : g4 l = cntS (g3 l).2 := rfl
theorem g5_eq (l : List Nat) : g5 l = statsS (g4 l).1 (g4 l).2 := rfl
def getS (l : List Nat) : AskS × St := (⟨(g5 l).1, decide ((g1 l).1 = 1), (g2 l).1, (g3 l).1⟩, (g5 l).2)
def askZ : AskS := ⟨[], false, ⟨0, 0, 0, 0, 0, 0⟩, []⟩
def getA (l : List Nat) : AskS × Int := if (getS l).2.2 = true ∨ 0 < (getS l).2.1.length then (askZ, 7) else ((getS l).1, 0)

/-- Its bytes. -/
def putC (c : ColS) : List Nat := vb (zz c.u) ++ (vb (zz c.n) ++ vbs c.m)
def putCs (l : List ColS) : List Nat := (l.map putC).flatten
def putT (s : StatS) : List Nat := vb (zz s.rows) ++ (vb (zz s.cols.length) ++ putCs s.cols)
def putTs (l : List StatS) : List Nat := (l.map putT).flatten
def forceI (b : Bool) : Int := if b then 1 else 0
def putO (o : OptS) : List Nat := vb (zz o.o0) ++ (vb (zz o.o1) ++ (vb (zz o.o2) ++ (vb (zz o.o3) ++ (vb (zz o.o4) ++ vb (zz o.o5)))))
def putA (a : AskS) : List Nat := vb (zz (forceI a.force)) ++ (putO a.o ++ (vbs a.picks ++ (vb (zz a.stats.length) ++ putTs a.stats)))

/-! What is read was just those bytes. -/
theorem num_inv {s : St} (hx : bytesOk s.1) (hf : (numS s).2.2 = false) : s.2 = false ∧ s.1 = vb (zz (numS s).1) ++ (numS s).2.1 ∧ small64 (numS s).1 := by
  have hs : s.2 = false := by
    cases h : s.2
    · rfl
    · rw [numS_failed h] at hf; cases hf
  refine ⟨hs, ?_, numS_bd hx⟩
  rcases h : scan s.1 0 0 with _ | ⟨z, n⟩
  · rw [numS_none h] at hf; cases hf
  · rw [numS_some h]
    have h2 := vb_scan s.1 hx z n h
    show s.1 = vb (zz (uz z)) ++ s.1.drop n
    rw [zz_uz, ← h2.2.2.1, List.take_append_drop]
theorem cnt_inv {s : St} (hx : bytesOk s.1) (hf : (cntS s).2.2 = false) : s.2 = false ∧ s.1 = vb (zz (cntS s).1) ++ (cntS s).2.1 := by
  unfold cntS at hf ⊢
  split
  · rename_i h; rw [if_pos h] at hf; cases hf
  · rename_i h
    rw [if_neg h] at hf
    have h2 := num_inv hx hf
    refine ⟨h2.1, ?_⟩
    show s.1 = vb (zz (((numS s).1.toNat : Nat) : Int)) ++ (numS s).2.1
    rw [Int.toNat_of_nonneg (by omega)]
    exact h2.2.1
theorem nums_inv {s : St} (hx : bytesOk s.1) (k : Nat) (hf : (numsS k s).2.2 = false) : s.2 = false ∧ s.1 = ((numsS k s).1.map fun n => vb (zz n)).flatten ++ (numsS k s).2.1 := by
  induction k with
  | zero => exact ⟨hf, by simp [numsS]⟩
  | succ k ih =>
    have h1 := num_inv (numsS_ok hx) hf
    have h2 := ih h1.1
    refine ⟨h2.1, ?_⟩
    unfold numsS
    simp only [List.map_append, List.flatten_append, List.map_cons, List.map_nil, List.flatten_cons, List.flatten_nil, List.append_nil]
    rw [List.append_assoc, ← h1.2.1]
    exact h2.2
theorem ints_inv {s : St} (hx : bytesOk s.1) (hf : (intsS s).2.2 = false) : s.2 = false ∧ s.1 = vbs (intsS s).1 ++ (intsS s).2.1 := by
  have h1 := nums_inv (cntS_ok hx) _ hf
  have h2 := cnt_inv hx h1.1
  refine ⟨h2.1, ?_⟩
  unfold vbs
  have hl : (intsS s).1.length = (cntS s).1 := numsS_len _ _
  rw [hl, List.append_assoc]
  exact h2.2.trans (by congr 1; exact h1.2)
theorem col_inv {s : St} (hx : bytesOk s.1) (hf : (colS s).2.2 = false) : s.2 = false ∧ s.1 = putC (colS s).1 ++ (colS s).2.1 := by
  have o1 := (less_num s).ok hx
  have o2 := (less_num (numS s).2).ok o1
  have h3 := ints_inv o2 hf
  have h2 := num_inv o1 h3.1
  have h1 := num_inv hx h2.1
  refine ⟨h1.1, ?_⟩
  unfold putC
  rw [List.append_assoc, List.append_assoc]
  refine h1.2.1.trans ?_
  show _ ++ _ = _ ++ _
  congr 1
  refine h2.2.1.trans ?_
  show _ ++ _ = _ ++ _
  congr 1
  exact h3.2
theorem cols_inv {s : St} (hx : bytesOk s.1) (k : Nat) (hf : (colsS k s).2.2 = false) : s.2 = false ∧ s.1 = putCs (colsS k s).1 ++ (colsS k s).2.1 := by
  induction k with
  | zero => exact ⟨hf, by simp [colsS, putCs]⟩
  | succ k ih =>
    have h1 := col_inv ((less_cols k s).ok hx) hf
    have h2 := ih h1.1
    refine ⟨h2.1, ?_⟩
    unfold colsS putCs
    simp only [List.map_append, List.flatten_append, List.map_cons, List.map_nil, List.flatten_cons, List.flatten_nil, List.append_nil]
    rw [List.append_assoc, ← h1.2]
    exact h2.2
theorem stat_inv {s : St} (hx : bytesOk s.1) (hf : (statS s).2.2 = false) : s.2 = false ∧ s.1 = putT (statS s).1 ++ (statS s).2.1 := by
  have o1 := (less_num s).ok hx
  have o2 := (less_cnt (numS s).2).ok o1
  have h3 := cols_inv o2 _ hf
  have h2 := cnt_inv o1 h3.1
  have h1 := num_inv hx h2.1
  refine ⟨h1.1, ?_⟩
  unfold putT
  have hl : (statS s).1.cols.length = (cntS (numS s).2).1 := colsS_len _ _
  rw [hl, List.append_assoc, List.append_assoc]
  refine h1.2.1.trans ?_
  show _ ++ _ = _ ++ _
  congr 1
  refine h2.2.trans ?_
  congr 1
  exact h3.2
theorem stats_inv {s : St} (hx : bytesOk s.1) (k : Nat) (hf : (statsS k s).2.2 = false) : s.2 = false ∧ s.1 = putTs (statsS k s).1 ++ (statsS k s).2.1 := by
  induction k with
  | zero => exact ⟨hf, by simp [statsS, putTs]⟩
  | succ k ih =>
    have h1 := stat_inv ((less_stats k s).ok hx) hf
    have h2 := ih h1.1
    refine ⟨h2.1, ?_⟩
    unfold statsS putTs
    simp only [List.map_append, List.flatten_append, List.map_cons, List.map_nil, List.flatten_cons, List.flatten_nil, List.append_nil]
    rw [List.append_assoc, ← h1.2]
    exact h2.2
theorem opt_inv {s : St} (hx : bytesOk s.1) (hf : (optS s).2.2 = false) : s.2 = false ∧ s.1 = putO (optS s).1 ++ (optS s).2.1 := by
  have a := less_num s
  have b := less_num (numS s).2
  have c := less_num (numS (numS s).2).2
  have d := less_num (numS (numS (numS s).2).2).2
  have e := less_num (numS (numS (numS (numS s).2).2).2).2
  have oa := a.ok hx
  have ob := b.ok oa
  have oc := c.ok ob
  have od := d.ok oc
  have oe := e.ok od
  have h6 := num_inv oe hf
  have h5 := num_inv od h6.1
  have h4 := num_inv oc h5.1
  have h3 := num_inv ob h4.1
  have h2 := num_inv oa h3.1
  have h1 := num_inv hx h2.1
  refine ⟨h1.1, ?_⟩
  unfold putO
  simp only [List.append_assoc]
  refine h1.2.1.trans ?_
  show _ ++ _ = _ ++ _
  congr 1
  refine h2.2.1.trans ?_
  show _ ++ _ = _ ++ _
  congr 1
  refine h3.2.1.trans ?_
  show _ ++ _ = _ ++ _
  congr 1
  refine h4.2.1.trans ?_
  show _ ++ _ = _ ++ _
  congr 1
  refine h5.2.1.trans ?_
  show _ ++ _ = _ ++ _
  congr 1
  exact h6.2.1
theorem force_inv {s : St} (hx : bytesOk s.1) (hf : (forceS s).2.2 = false) : s.2 = false ∧ ((forceS s).1 = 0 ∨ (forceS s).1 = 1) ∧ s.1 = vb (zz (forceS s).1) ++ (forceS s).2.1 := by
  unfold forceS at hf ⊢
  split
  · rename_i h; rw [if_pos h] at hf; cases hf
  · rename_i h
    rw [if_neg h] at hf
    have h2 := num_inv hx hf
    exact ⟨h2.1, by show (numS s).1 = 0 ∨ (numS s).1 = 1; omega, h2.2.1⟩
theorem put_join {l : List Nat} {f : Int × St} {o : OptS × St} {p : List Int × St} {c : Nat × St} {t : List StatS × St} (e1 : f = forceS (l, false)) (e2 : o = optS f.2) (e3 : p = intsS o.2) (e4 : c = cntS p.2) (e5 : t = statsS c.1 c.2)
    (hx : bytesOk l) (hb : t.2.2 = false) (he : t.2.1 = []) : putA ⟨t.1, decide (f.1 = 1), o.1, p.1⟩ = l := by
  have o1 : bytesOk f.2.1 := by rw [e1]; exact (less_force (l, false)).ok hx
  have o2 : bytesOk o.2.1 := by rw [e2]; exact (less_opt f.2).ok o1
  have o3 : bytesOk p.2.1 := by rw [e3]; exact (less_ints o.2).ok o2
  have o4 : bytesOk c.2.1 := by rw [e4]; exact (less_cnt p.2).ok o3
  have h5 : c.2.2 = false ∧ c.2.1 = putTs t.1 ++ t.2.1 := by rw [e5] at hb ⊢; exact stats_inv o4 _ hb
  have h4 : p.2.2 = false ∧ p.2.1 = vb (zz c.1) ++ c.2.1 := by have h := h5.1; rw [e4] at h ⊢; exact cnt_inv o3 h
  have h3 : o.2.2 = false ∧ o.2.1 = vbs p.1 ++ p.2.1 := by have h := h4.1; rw [e3] at h ⊢; exact ints_inv o2 h
  have h2 : f.2.2 = false ∧ f.2.1 = putO o.1 ++ o.2.1 := by have h := h3.1; rw [e2] at h ⊢; exact opt_inv o1 h
  have h1 : (f.1 = 0 ∨ f.1 = 1) ∧ l = vb (zz f.1) ++ f.2.1 := by have h := h2.1; rw [e1] at h ⊢; exact (force_inv (s := (l, false)) hx h).2
  have hl : t.1.length = c.1 := by rw [e5]; exact statsS_len _ _
  have hfo : forceI (decide (f.1 = 1)) = f.1 := by
    rcases h1.1 with h | h
    · rw [h]; rfl
    · rw [h]; rfl
  unfold putA
  simp only
  rw [hl, hfo]
  have e6 := h5.2
  rw [he, List.append_nil] at e6
  rw [← e6, ← h4.2, ← h3.2, ← h2.2]
  exact h1.2.symm
theorem getS_eq (l : List Nat) : getS l = (⟨(g5 l).1, decide ((g1 l).1 = 1), (g2 l).1, (g3 l).1⟩, (g5 l).2) := rfl
theorem getA_inv {l : List Nat} (hx : bytesOk l) (h : (getA l).2 = 0) : putA (getA l).1 = l := by
  unfold getA at h ⊢
  rw [getS_eq] at h ⊢
  have e := put_join (g1_eq l) (g2_eq l) (g3_eq l) (g4_eq l) (g5_eq l) hx
  generalize g1 l = f at *
  generalize g2 l = o at *
  generalize g3 l = p at *
  generalize g5 l = t at *
  simp only at h ⊢
  split
  · rename_i h2; rw [if_pos h2] at h; cases h
  · rename_i h2
    refine e ?_ (List.eq_nil_of_length_eq_zero (by omega))
    cases h3 : t.2.2
    · rfl
    · exact absurd (Or.inl h3) h2
end Go.Proofs.Ytcokhgomibimcaa
