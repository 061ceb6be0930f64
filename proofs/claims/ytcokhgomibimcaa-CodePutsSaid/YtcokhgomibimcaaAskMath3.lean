/- Layer 39: the document's own reading of a way to ask: plain mathematics. -/
import Derived.Test.YtcokhgomibimcaaAskMath2
namespace Go.Proofs.Ytcokhgomibimcaa

theorem getA_fail {l : List Nat} (h : (g5 l).2.2 = true) : getA l = (askZ, 7) := by
  unfold getA
  rewrite [getS_eq]
  generalize g5 l = t at *
  generalize g1 l = f at *
  generalize g2 l = o at *
  generalize g3 l = p at *
  simp only
  exact if_pos (Or.inl h)
theorem bad4 {c : Nat × St} {t : List StatS × St} (e5 : t = statsS c.1 c.2) (h : c.2.2 = true) : t.2.2 = true := by
  subst e5
  exact (less_stats _ _).bad h
theorem bad3 {p : List Int × St} {c : Nat × St} {t : List StatS × St} (e4 : c = cntS p.2) (e5 : t = statsS c.1 c.2) (h : p.2.2 = true) : t.2.2 = true := by
  refine bad4 e5 ?_
  subst e4
  exact (less_cnt _).bad h
theorem bad2 {o : OptS × St} {p : List Int × St} {c : Nat × St} {t : List StatS × St} (e3 : p = intsS o.2) (e4 : c = cntS p.2) (e5 : t = statsS c.1 c.2) (h : o.2.2 = true) : t.2.2 = true := by
  refine bad3 e4 e5 ?_
  subst e3
  exact (less_ints _).bad h
theorem g5_bad {l : List Nat} (h : (g2 l).2.2 = true) : (g5 l).2.2 = true := bad2 (g3_eq l) (g4_eq l) (g5_eq l) h
theorem nums7 (s n1 n2 n3 n4 n5 n6 n7) (h1 : numS s = n1) (h2 : numS n1.2 = n2) (h3 : numS n2.2 = n3) (h4 : numS n3.2 = n4) (h5 : numS n4.2 = n5) (h6 : numS n5.2 = n6) (h7 : numS n6.2 = n7) :
    numsS 7 s = ([n1.1, n2.1, n3.1, n4.1, n5.1, n6.1, n7.1], n7.2) := by
  subst h1 h2 h3 h4 h5 h6 h7
  simp [numsS]
theorem opt6 (s n2 n3 n4 n5 n6 n7) (h2 : numS s = n2) (h3 : numS n2.2 = n3) (h4 : numS n3.2 = n4) (h5 : numS n4.2 = n5) (h6 : numS n5.2 = n6) (h7 : numS n6.2 = n7) :
    optS s = (⟨n2.1, n3.1, n4.1, n5.1, n6.1, n7.1⟩, n7.2) := by
  subst h2 h3 h4 h5 h6 h7
  rfl
/-- One of the first seven is none. -/
theorem getA_bad7 {l : List Nat} (h : (numsS 7 (l, false)).2.2 = true) : getA l = (askZ, 7) := by
  apply getA_fail
  apply g5_bad
  rewrite [nums7 (l, false) _ _ _ _ _ _ _ rfl rfl rfl rfl rfl rfl rfl] at h
  rewrite [g2_eq, g1_eq]
  unfold forceS
  split
  · exact (less_opt _).bad rfl
  · rewrite [opt6 _ _ _ _ _ _ _ rfl rfl rfl rfl rfl rfl]
    exact h
theorem getA_bad0 {l : List Nat} (h : (numS (l, false)).1 ≠ 0 ∧ (numS (l, false)).1 ≠ 1) : getA l = (askZ, 7) := by
  apply getA_fail
  apply g5_bad
  rewrite [g2_eq, g1_eq]
  unfold forceS
  rewrite [if_pos h]
  exact (less_opt _).bad rfl
/-- The first seven, and what is behind them. -/
theorem getA_mid {l : List Nat} {f a0 a1 a2 a3 a4 a5 : Int} {s7 : St} (h : numsS 7 (l, false) = ([f, a0, a1, a2, a3, a4, a5], s7)) :
    ((f ≠ 0 ∧ f ≠ 1) → getA l = (askZ, 7)) ∧ (¬ (f ≠ 0 ∧ f ≠ 1) → (g1 l).1 = f ∧ (g2 l).1 = ⟨a0, a1, a2, a3, a4, a5⟩ ∧ g3 l = intsS s7) := by
  rewrite [nums7 (l, false) _ _ _ _ _ _ _ rfl rfl rfl rfl rfl rfl rfl] at h
  have e := opt6 (numS (l, false)).2 _ _ _ _ _ _ rfl rfl rfl rfl rfl rfl
  have b := @getA_bad0 l
  rewrite [g3_eq, g2_eq, g1_eq]
  unfold forceS
  generalize numS (l, false) = n1 at *
  obtain ⟨v, s1⟩ := n1
  simp only at *
  rewrite [Prod.mk.injEq, List.cons.injEq] at h
  obtain ⟨⟨rfl, h1⟩, h2⟩ := h
  refine ⟨b, fun hn => ?_⟩
  rewrite [if_neg hn]
  rewrite [e]
  simp only [List.cons.injEq, and_true] at h1
  obtain ⟨h11, h12, h13, h14, h15, h16⟩ := h1
  refine ⟨rfl, ?_, by rw [h2]⟩
  rw [h11, h12, h13, h14, h15, h16]
theorem getA_tail {l : List Nat} {f : Int} {o : OptS} {pk : List Int} {s8 : St} {k : Nat} {s9 : St} {t : List StatS × St} (h1 : (g1 l).1 = f) (h2 : (g2 l).1 = o) (h3 : g3 l = (pk, s8)) (h4 : cntS s8 = (k, s9)) (h5 : statsS k s9 = t) :
    getA l = if t.2.2 = true ∨ 0 < t.2.1.length then (askZ, 7) else (⟨t.1, decide (f = 1), o, pk⟩, 0) := by
  unfold getA
  rewrite [getS_eq, g5_eq, g4_eq, h3, h1, h2]
  simp only
  rewrite [h4]
  simp only
  rw [h5]
theorem getA_bad3 {l : List Nat} (h : (g3 l).2.2 = true) : getA l = (askZ, 7) := getA_fail (bad3 (g4_eq l) (g5_eq l) h)
theorem getA_bad4 {l : List Nat} {pk : List Int} {s8 : St} (h3 : g3 l = (pk, s8)) (h : (cntS s8).2.2 = true) : getA l = (askZ, 7) := by
  refine getA_fail (bad4 (g5_eq l) ?_)
  have e := g4_eq l
  rewrite [h3] at e
  rewrite [e]
  exact h
end Go.Proofs.Ytcokhgomibimcaa
