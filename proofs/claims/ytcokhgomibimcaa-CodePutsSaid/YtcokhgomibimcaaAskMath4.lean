/- Layer 39: what is read may be put: plain mathematics. -/
import Derived.Test.YtcokhgomibimcaaAsk9
import Derived.Test.YtcokhgomibimcaaAskMath3
namespace Go.Proofs.Ytcokhgomibimcaa

theorem ints_small {s : St} (h : bytesOk s.1) : ∀ x ∈ (intsS s).1, small64 x := fun x hx => numsS_bd (cntS_ok h) (cntS s).1 x hx
theorem num_small {s : St} (h : bytesOk s.1) : small64 (numS s).1 := numS_bd h
theorem col_ok {s : St} (h : bytesOk s.1) (hl : s.1.length ≤ 10000) : okC (colS s).1 := by
  have h1 := (less_num s).ok h
  have h2 := (less_num (numS s).2).ok h1
  refine ⟨num_small h, num_small h1, ints_small h2, ?_⟩
  have h3 := (intsS_left (numS (numS s).2).2).2
  have h4 := (less_num s).len
  have h5 := (less_num (numS s).2).len
  show (intsS (numS (numS s).2).2).1.length ≤ 10000
  omega
theorem cols_ok (k : Nat) {s : St} (h : bytesOk s.1) (hl : s.1.length ≤ 10000) : ∀ c ∈ (colsS k s).1, okC c := by
  induction k with
  | zero => intro c hc; cases hc
  | succ k ih =>
    intro c hc
    simp only [colsS, List.mem_append, List.mem_singleton] at hc
    rcases hc with hc | rfl
    · exact ih c hc
    · exact col_ok ((less_cols k s).ok h) (Nat.le_trans (less_cols k s).len hl)
theorem stat_ok {s : St} (h : bytesOk s.1) (hl : s.1.length ≤ 10000) : okT (statS s).1 := by
  have h1 := (less_num s).ok h
  have h2 := (less_cnt (numS s).2).ok h1
  have l1 := (less_num s).len
  have l2 := cntS_left (numS s).2
  refine ⟨num_small h, ?_, cols_ok _ h2 (by omega)⟩
  show (colsS (cntS (numS s).2).1 (cntS (numS s).2).2).1.length ≤ 10000
  rw [colsS_len]
  omega
theorem stats_ok (k : Nat) {s : St} (h : bytesOk s.1) (hl : s.1.length ≤ 10000) : ∀ c ∈ (statsS k s).1, okT c := by
  induction k with
  | zero => intro c hc; cases hc
  | succ k ih =>
    intro c hc
    simp only [statsS, List.mem_append, List.mem_singleton] at hc
    rcases hc with hc | rfl
    · exact ih c hc
    · exact stat_ok ((less_stats k s).ok h) (Nat.le_trans (less_stats k s).len hl)
theorem opt_ok {s : St} (h : bytesOk s.1) : okO (optS s).1 := by
  have oa := (less_num s).ok h
  have ob := (less_num (numS s).2).ok oa
  have oc := (less_num (numS (numS s).2).2).ok ob
  have od := (less_num (numS (numS (numS s).2).2).2).ok oc
  have oe := (less_num (numS (numS (numS (numS s).2).2).2).2).ok od
  exact ⟨num_small h, num_small oa, num_small ob, num_small oc, num_small od, num_small oe⟩
theorem get_parts {l : List Nat} {f : Int × St} {o : OptS × St} {p : List Int × St} {c : Nat × St} {t : List StatS × St} (e1 : f = forceS (l, false)) (e2 : o = optS f.2) (e3 : p = intsS o.2) (e4 : c = cntS p.2) (e5 : t = statsS c.1 c.2)
    (hx : bytesOk l) (hl : l.length ≤ 10000) : (∀ s ∈ t.1, okT s) ∧ t.1.length ≤ 10000 ∧ okO o.1 ∧ (∀ x ∈ p.1, small64 x) ∧ p.1.length ≤ 10000 := by
  have o1 : bytesOk f.2.1 := by rw [e1]; exact (less_force (l, false)).ok hx
  have o2 : bytesOk o.2.1 := by rw [e2]; exact (less_opt f.2).ok o1
  have o3 : bytesOk p.2.1 := by rw [e3]; exact (less_ints o.2).ok o2
  have o4 : bytesOk c.2.1 := by rw [e4]; exact (less_cnt p.2).ok o3
  have l1 : f.2.1.length ≤ l.length := by rw [e1]; exact (less_force (l, false)).len
  have l2 : o.2.1.length ≤ f.2.1.length := by rw [e2]; exact (less_opt f.2).len
  have l3 : p.2.1.length ≤ o.2.1.length := by rw [e3]; exact (less_ints o.2).len
  have l4 : c.2.1.length ≤ p.2.1.length := by rw [e4]; exact (less_cnt p.2).len
  have l5 : c.1 ≤ c.2.1.length := by rw [e4]; exact (cntS_left p.2).2.2
  have l6 : p.1.length ≤ o.2.1.length := by rw [e3]; exact (intsS_left o.2).2
  refine ⟨?_, ?_, ?_, ?_, by omega⟩
  · rw [e5]; exact stats_ok c.1 o4 (by omega)
  · rw [e5, statsS_len]; omega
  · rw [e2]; exact opt_ok o1
  · rw [e3]; exact ints_small o2
theorem getA_ok {l : List Nat} (hx : bytesOk l) (hl : l.length ≤ 10000) (h : (getA l).2 = 0) : okA (getA l).1 := by
  have hi := getA_inv hx h
  have hp := get_parts (g1_eq l) (g2_eq l) (g3_eq l) (g4_eq l) (g5_eq l) hx hl
  have hlen : (putA (getA l).1).length ≤ 800000 := by rw [hi]; omega
  clear hi
  unfold getA at h hlen ⊢
  rw [getS_eq] at h hlen ⊢
  generalize g1 l = f at *
  generalize g2 l = o at *
  generalize g3 l = p at *
  generalize g5 l = t at *
  simp only at h hlen ⊢
  split
  · rename_i h2; rw [if_pos h2] at h; cases h
  · rename_i h2
    rw [if_neg h2] at hlen
    exact ⟨hp.1, hp.2.1, hp.2.2.1, hp.2.2.2.1, hp.2.2.2.2, hlen⟩
theorem okA_small {a : AskS} (h : okA a) : smallA a :=
  ⟨⟨by have := h.2.1; unfold smallN; omega, fun s hs => ⟨by have := (h.1 s hs).2.1; unfold smallN; omega, fun c hc => by have := ((h.1 s hs).2.2 c hc).2.2.2; unfold smallN; omega⟩⟩, by have := h.2.2.2.2.1; unfold smallN; omega⟩
theorem getA_small {l : List Nat} (hx : bytesOk l) (hl : l.length ≤ 10000) : smallA (getA l).1 := by
  have hok := @getA_ok l hx hl
  have hz : (getA l).1 = askZ ∨ (getA l).2 = 0 := by
    unfold getA
    split
    · exact Or.inl rfl
    · exact Or.inr rfl
  generalize getA l = r at *
  rcases hz with hz | hz
  · rw [hz]
    exact ⟨⟨by show 0 ≤ 1000000000000000; omega, fun s hs => by cases hs⟩, by show 0 ≤ 1000000000000000; omega⟩
  · exact okA_small (hok hz)
theorem getA_code (l : List Nat) : (getA l).2 = 0 ∨ (getA l).2 = 7 := by
  unfold getA
  split
  · exact Or.inr rfl
  · exact Or.inl rfl
end Go.Proofs.Ytcokhgomibimcaa
