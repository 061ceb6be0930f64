/- Layer 22: a join tree, whichever, lets ears be removed down to one edge; all lists of parents by numbers: plain mathematics. No condition. -/
import Derived.Test.YtpdkacfhnmfmaaaGyoMath
namespace Go.Proofs.Ytpdkacfhnmfmaaa

/-- What a list of parents that is a tree tells of each node. -/
structure TreeT (ps : List Int) : Prop where
  up : ∀ x (hx : x < ps.length), (ps[x] = -1 ∧ upI ps x = [(x : Int)]) ∨ ∃ p : Nat, p < ps.length ∧ ps[x] = (p : Int) ∧ upI ps x = (x : Int) :: upI ps p
  one : ∀ x y (hx : x < ps.length) (hy : y < ps.length), ps[x] = -1 → ps[y] = -1 → x = y
theorem upL_stop {ps : List Int} : ∀ (f x : Nat), x < ps.length → parI ps ((upL ps (f + 1) (x : Int)).getLastD 0) = -1 → ∀ g, f + 1 ≤ g → upL ps g (x : Int) = upL ps (f + 1) (x : Int) := by
  intro f
  induction f with
  | zero =>
    intro x hx hl g hg
    obtain ⟨g, rfl⟩ : ∃ q, g = q + 1 := ⟨g - 1, by omega⟩
    rw [upL_in hx] at hl ⊢
    rw [upL_in hx]
    have hp : ps[x] = -1 := by
      show ps[x] = -1
      have : parI ps (x : Int) = -1 := hl
      unfold parI at this
      rw [Int.toNat_natCast, getD_at hx] at this
      exact this
    rw [hp, upL_out (by omega), upL_out (by omega)]
  | succ f ih =>
    intro x hx hl g hg
    obtain ⟨g, rfl⟩ : ∃ q, g = q + 1 := ⟨g - 1, by omega⟩
    rw [upL_in hx] at hl ⊢
    rw [upL_in hx]
    by_cases hr : 0 ≤ ps[x] ∧ ps[x] < ps.length
    · obtain ⟨p, hp⟩ : ∃ p : Nat, ps[x] = (p : Int) := ⟨ps[x].toNat, by omega⟩
      have hpl : p < ps.length := by omega
      rw [hp] at hl ⊢
      have hl2 : parI ps ((upL ps (f + 1) (p : Int)).getLastD 0) = -1 := by
        rw [upL_in hpl] at hl ⊢
        exact hl
      rw [ih p hpl hl2 g (by omega)]
    · rw [upL_out hr, upL_out hr]
theorem treeT_of {ps : List Int} (ht : treeB ps = true) : TreeT ps := by
  unfold treeB at ht
  rw [Bool.and_eq_true, List.all_eq_true] at ht
  obtain ⟨h1, h2⟩ := ht
  have hlast : ∀ x, x < ps.length → lastUp ps x = -1 := fun x hx => by simpa using h1 x (List.mem_range.2 hx)
  refine ⟨fun x hx => ?_, fun x y hx hy ex ey => ?_⟩
  · have hl := hlast x hx
    unfold lastUp upI at hl
    unfold upI
    obtain ⟨n, hn⟩ : ∃ n, ps.length = n + 1 := ⟨ps.length - 1, by omega⟩
    rw [hn] at hl ⊢
    rw [upL_in hx] at hl ⊢
    by_cases hr : 0 ≤ ps[x] ∧ ps[x] < ps.length
    · obtain ⟨p, hp⟩ : ∃ p : Nat, ps[x] = (p : Int) := ⟨ps[x].toNat, by omega⟩
      have hpl : p < ps.length := by omega
      refine Or.inr ⟨p, by omega, hp, ?_⟩
      rw [hp] at hl ⊢
      cases n with
      | zero =>
        exfalso
        have : parI ps (x : Int) = -1 := hl
        unfold parI at this
        rw [Int.toNat_natCast, getD_at hx, hp] at this
        omega
      | succ n =>
        have hl2 : parI ps ((upL ps (n + 1) (p : Int)).getLastD 0) = -1 := by
          rw [upL_in hpl] at hl ⊢
          exact hl
        rw [upL_stop n p hpl hl2 (n + 1 + 1) (by omega)]
    · rw [upL_out hr] at hl ⊢
      refine Or.inl ⟨?_, rfl⟩
      have : parI ps (x : Int) = -1 := hl
      unfold parI at this
      rw [Int.toNat_natCast, getD_at hx] at this
      exact this
  · have h0 : (ps.length == 0) = false := by
      rw [beq_eq_false_iff_ne]; omega
    rw [h0, Bool.false_or, beq_iff_eq] at h2
    have hm : ∀ z (hz : z < ps.length), ps[z] = -1 → z ∈ rootsL22 ps ps.length := fun z hz e => by
      unfold rootsL22
      rw [List.mem_filter]
      exact ⟨List.mem_range.2 hz, by rw [getD_at hz, e]; rfl⟩
    have a := hm x hx ex
    have b := hm y hy ey
    generalize rootsL22 ps ps.length = l at *
    match l, h2 with
    | [c], _ => rw [List.mem_singleton.1 a, List.mem_singleton.1 b]
def depI (ps : List Int) (x : Nat) : Nat := (upI ps x).length
section
variable {ps : List Int}
theorem TreeT.dep (_T : TreeT ps) {x p : Nat} (h : upI ps x = (x : Int) :: upI ps p) : depI ps x = depI ps p + 1 := by
  unfold depI
  rw [h, List.length_cons]
theorem TreeT.mem (T : TreeT ps) : ∀ (d x : Nat), x < ps.length → depI ps x ≤ d → ∀ y, y ∈ upI ps (x : Int) → ∃ z : Nat, y = (z : Int) ∧ z < ps.length ∧ (z = x ∨ depI ps z < depI ps x) := by
  intro d
  induction d with
  | zero =>
    intro x hx hd y hy
    unfold depI at hd
    rw [List.eq_nil_of_length_eq_zero (Nat.le_zero.1 hd)] at hy
    cases hy
  | succ d ih =>
    intro x hx hd y hy
    rcases T.up x hx with ⟨_, e⟩ | ⟨p, hp, _, e⟩
    · rw [e] at hy
      exact ⟨x, List.mem_singleton.1 hy, hx, Or.inl rfl⟩
    · have hdp := T.dep e
      rw [e] at hy
      rcases List.mem_cons.1 hy with hy | hy
      · exact ⟨x, hy, hx, Or.inl rfl⟩
      · obtain ⟨z, h1, h2, h3⟩ := ih p hp (by omega) y hy
        refine ⟨z, h1, h2, Or.inr ?_⟩
        rcases h3 with h3 | h3
        · subst h3; omega
        · omega
theorem TreeT.self (T : TreeT ps) {x : Nat} (hx : x < ps.length) : (x : Int) ∈ upI ps x := by
  rcases T.up x hx with ⟨_, e⟩ | ⟨p, _, _, e⟩
  · rw [e]; simp
  · rw [e]; simp
theorem TreeT.root (T : TreeT ps) : ∀ (d x : Nat), x < ps.length → depI ps x ≤ d → ∃ (r : Nat) (hr : r < ps.length), ps[r] = -1 ∧ (r : Int) ∈ upI ps x := by
  intro d
  induction d with
  | zero =>
    intro x hx hd
    have := T.self hx
    unfold depI at hd
    rw [List.eq_nil_of_length_eq_zero (Nat.le_zero.1 hd)] at this
    cases this
  | succ d ih =>
    intro x hx hd
    rcases T.up x hx with ⟨e0, e⟩ | ⟨p, hp, _, e⟩
    · exact ⟨x, hx, e0, by rw [e]; simp⟩
    · obtain ⟨r, hr, h1, h2⟩ := ih p hp (by have := T.dep e; omega)
      exact ⟨r, hr, h1, by rw [e]; exact List.mem_cons_of_mem _ h2⟩
theorem meet_mem {x y : List Int} (h : ∃ z ∈ x, z ∈ y) : meetI x y ∈ x ∧ meetI x y ∈ y := by
  obtain ⟨z, h1, h2⟩ := h
  unfold meetI
  cases hf : x.find? fun z => decide (z ∈ y) with
  | none =>
    rw [List.find?_eq_none] at hf
    exact absurd h2 (by simpa using hf z h1)
  | some q =>
    have h3 := List.find?_some hf
    exact ⟨List.mem_of_find?_eq_some hf, by simpa using h3⟩
theorem TreeT.meet (T : TreeT ps) {a b : Nat} (ha : a < ps.length) (hb : b < ps.length) : ∃ z ∈ upI ps (a : Int), z ∈ upI ps (b : Int) := by
  obtain ⟨r, hr, e1, m1⟩ := T.root _ a ha (Nat.le_refl _)
  obtain ⟨s, hs, e2, m2⟩ := T.root _ b hb (Nat.le_refl _)
  have : r = s := T.one r s hr hs e1 e2
  subst this
  exact ⟨_, m1, m2⟩
end
theorem max_ex (d : Nat → Nat) : ∀ l : List Nat, l ≠ [] → ∃ x ∈ l, ∀ y ∈ l, d y ≤ d x
  | [], h => absurd rfl h
  | [a], _ => ⟨a, by simp, fun y hy => by rw [List.mem_singleton.1 hy]; exact Nat.le_refl _⟩
  | a :: b :: t, _ => by
    obtain ⟨x, hx, hm⟩ := max_ex d (b :: t) (by simp)
    by_cases h : d a ≤ d x
    · exact ⟨x, List.mem_cons_of_mem _ hx, fun y hy => by
        rcases List.mem_cons.1 hy with hy | hy
        · rw [hy]; exact h
        · exact hm y hy⟩
    · exact ⟨a, by simp, fun y hy => by
        rcases List.mem_cons.1 hy with hy | hy
        · rw [hy]; exact Nat.le_refl _
        · have := hm y hy; omega⟩
/-- A join tree lets ears be removed from any part of it that holds all parents. -/
theorem joins_red {h : List (List Int)} {ps : List Int} (J : JoinsP h ps) : ∀ (c : Nat) (L : List Bool), L.length = h.length → L.count true ≤ c → (∀ x (hx : x < ps.length), thB L x = true → ∀ p : Nat, ps[x] = (p : Int) → thB L p = true) → ∃ m, RedN h m L := by
  obtain ⟨hlen, htree, hj⟩ := J
  have T := treeT_of htree
  intro c
  induction c with
  | zero => intro L _ hc _; exact ⟨0, few_of (by omega)⟩
  | succ c ih =>
    intro L hL hc hdown
    by_cases hf : Few L
    · exact ⟨0, hf⟩
    have hin : ∀ x, thB L x = true → x < ps.length := fun x hx => by have := thB_lt hx; omega
    obtain ⟨x, y, hxy, hx, hy⟩ : ∃ x y, x ≠ y ∧ thB L x = true ∧ thB L y = true := by
      apply Classical.byContradiction
      intro hno
      exact hf fun x y hx hy => Classical.byContradiction fun e => hno ⟨x, y, e, hx, hy⟩
    obtain ⟨i, hi, hmax⟩ := max_ex (depI ps) ((List.range ps.length).filter fun x => thB L x) (fun e => by
      have : x ∈ (List.range ps.length).filter fun x => thB L x := List.mem_filter.2 ⟨List.mem_range.2 (hin x hx), hx⟩
      rw [e] at this
      cases this)
    obtain ⟨hil, hti⟩ := List.mem_filter.1 hi
    have hil' := List.mem_range.1 hil
    have hmx : ∀ z, thB L z = true → depI ps z ≤ depI ps i := fun z hz => hmax z (List.mem_filter.2 ⟨List.mem_range.2 (hin z hz), hz⟩)
    have hpos : ∀ z, z < ps.length → 1 ≤ depI ps z := fun z hz => by
      have := T.self hz
      unfold depI
      exact List.length_pos_iff.2 (fun e => by rw [e] at this; cases this)
    rcases T.up i hil' with ⟨e0, e1⟩ | ⟨p, hp, e0, e1⟩
    · exfalso
      have hd1 : depI ps i = 1 := by unfold depI; rw [e1]; rfl
      have hroot : ∀ z, thB L z = true → z = i := fun z hz => by
        rcases T.up z (hin z hz) with ⟨f0, _⟩ | ⟨q, hq, f0, f1⟩
        · exact T.one z i (hin z hz) hil' f0 e0
        · have := T.dep f1
          have := hmx z hz
          have := hpos q hq
          omega
      exact hxy (by rw [hroot x hx, hroot y hy])
    · have htp := hdown i hil' hti p e0
      have hdp := T.dep e1
      have hpi : p ≠ i := fun e => by subst e; omega
      have hear : EarC h L i p := by
        refine ⟨by omega, hti, by omega, hpi, htp, fun k hk hki hlk v hvi hvk => ?_⟩
        have hkl : k < ps.length := by omega
        have hnot : (i : Int) ∉ upI ps (k : Int) := fun hm => by
          obtain ⟨z, z1, z2, z3⟩ := T.mem _ k hkl (Nat.le_refl _) _ hm
          have : z = i := by omega
          subst this
          rcases z3 with z3 | z3
          · exact hki z3.symm
          · have := hmx k hlk; omega
        have hpself := T.self hp
        rcases Nat.lt_trichotomy k i with hlt | heq | hgt
        · have hpath : pathB ps i k p = true := by
            unfold pathB
            rw [e1, meet_cons hnot]
            simp only [Bool.and_eq_true, Bool.or_eq_true, decide_eq_true_eq, List.mem_cons]
            exact ⟨Or.inl (Or.inr hpself), (meet_mem (T.meet hp hkl)).1⟩
          have := hj i k p (by omega) hlt (by omega) hpath
          rw [withinI_iff] at this
          exact this v ((sharedI_mem _ _ _).2 ⟨hvi, hvk⟩)
        · exact absurd heq hki
        · have hpath : pathB ps k i p = true := by
            unfold pathB
            rw [e1, meet_right hnot]
            simp only [Bool.and_eq_true, Bool.or_eq_true, decide_eq_true_eq, List.mem_cons]
            exact ⟨Or.inr (Or.inr hpself), (meet_mem (T.meet hkl hp)).2⟩
          have := hj k i p (by omega) hgt (by omega) hpath
          rw [withinI_iff] at this
          exact this v ((sharedI_mem _ _ _).2 ⟨hvk, hvi⟩)
      have hco := count_off hti
      obtain ⟨m, hm⟩ := ih (L.set i false) (by simpa using hL) (by omega) fun z hz hlz q hq => by
        obtain ⟨hlz1, hzi⟩ := th_off.1 hlz
        have htq := hdown z hz hlz1 q hq
        refine th_off.2 ⟨htq, fun e => ?_⟩
        subst e
        rcases T.up z hz with ⟨f0, _⟩ | ⟨r, hr, f0, f1⟩
        · rw [f0] at hq; omega
        · have : r = q := by rw [f0] at hq; omega
          subst this
          have := T.dep f1
          have := hmx z hlz1
          omega
      exact ⟨m + 1, i, p, hear, hm⟩
/-- A number's digits, as parents. -/
def digs (n : Nat) : Nat → Nat → List Int
  | 0, _ => []
  | m + 1, c => ((c % n : Nat) : Int) :: digs n m (c / n)
theorem digs_len (n : Nat) : ∀ (m c : Nat), (digs n m c).length = m
  | 0, _ => rfl
  | m + 1, c => by show (digs n m (c / n)).length + 1 = _; rw [digs_len n m]
theorem digs_ex {n : Nat} (hn : 0 < n) : ∀ ds : List Nat, (∀ d ∈ ds, d < n) → ∃ c, c < n ^ ds.length ∧ digs n ds.length c = ds.map fun (d : Nat) => (d : Int)
  | [], _ => ⟨0, by simp, rfl⟩
  | d :: ds, h => by
    obtain ⟨c, h1, h2⟩ := digs_ex hn ds fun x hx => h x (by simp [hx])
    have hd := h d (by simp)
    have e1 : (d + n * c) % n = d := by rw [Nat.add_mul_mod_self_left, Nat.mod_eq_of_lt hd]
    have e2 : (d + n * c) / n = c := by rw [Nat.add_mul_div_left _ _ hn, Nat.div_eq_of_lt hd, Nat.zero_add]
    refine ⟨d + n * c, ?_, ?_⟩
    · have h3 : n * (c + 1) ≤ n * n ^ ds.length := Nat.mul_le_mul_left n h1
      rw [List.length_cons, Nat.pow_succ, Nat.mul_comm (n ^ ds.length) n]
      rw [Nat.mul_add, Nat.mul_one] at h3
      omega
    · show (((d + n * c) % n : Nat) : Int) :: digs n ds.length ((d + n * c) / n) = _
      rw [e1, e2, h2]
      rfl
/-- The parents that a number stands for. -/
def psOf (n c : Nat) : List Int := (-1) :: digs n (n - 1) c
/-- There is a join tree, by numbers, just if ears leave one at most. -/
theorem exists_iff (h : List (List Int)) : (leftI h).length ≤ 1 ↔ (h.length = 0 ∨ ∃ c, c < h.length ^ (h.length - 1) ∧ JoinsP h (psOf h.length c)) := by
  constructor
  · intro ha
    by_cases h0 : h.length = 0
    · exact Or.inl h0
    · refine Or.inr ?_
      obtain ⟨m, hm⟩ := of_greedy ha
      obtain ⟨E, L, s, hz, hf⟩ := to_root (z := 0) m [] _ EarSeq.nil hm (by rw [thB_at (by simp; omega)]; simp)
      obtain ⟨rk, I⟩ := s.rank
      have hc1 := few_count hf
      have hc2 : 0 < L.count true := by
        have := thB_lt hz
        rw [thB_at this] at hz
        exact List.count_pos_iff.2 (by rw [← hz]; exact List.getElem_mem this)
      have R := ranked_of I s.count hc1 hc2
      have hroot : (parE h.length E)[0]? = some (-1) := (I.left 0 (by omega) hz).2
      have hJ : JoinsP h (parE h.length E) := ⟨parE_len _ _, R.tree, fun a b c ha hb hc hp => by
        rw [withinI_iff]
        intro v hv
        rw [sharedI_mem] at hv
        exact R.joins v _ a b ha (by omega) (Nat.le_refl _) c hc hp hv.1 hv.2⟩
      have hl : (parE h.length E).length = h.length := parE_len _ _
      have hin := R.up
      have hrk := R.inj
      generalize parE h.length E = pl at *
      match pl, hl with
      | [], hl => simp at hl; omega
      | r :: t, hl =>
        have hr : r = -1 := by simpa using hroot
        subst hr
        have ht : t.length = h.length - 1 := by simp at hl; omega
        have hx0 := hin 0 (by simp)
        have hz0 : rk 0 = h.length := by
          rcases hx0 with ⟨_, e⟩ | ⟨p, _, e, _⟩
          · exact e
          · simp at e
        have hd : ∀ d ∈ t.map Int.toNat, d < h.length := fun d hd => by
          obtain ⟨x, hx, rfl⟩ := List.mem_map.1 hd
          obtain ⟨i, hi, rfl⟩ := List.getElem_of_mem hx
          rcases hin (i + 1) (by simp; omega) with ⟨_, e⟩ | ⟨p, hp, e, _⟩
          · have := hrk 0 (i + 1) (by omega) (by omega) (by rw [hz0, e])
            omega
          · simp at e
            rw [e]
            simpa using hp
        have hnn : ∀ x ∈ t, 0 ≤ x := fun x hx => by
          obtain ⟨i, hi, rfl⟩ := List.getElem_of_mem hx
          rcases hin (i + 1) (by simp; omega) with ⟨_, e⟩ | ⟨p, hp, e, _⟩
          · have := hrk 0 (i + 1) (by omega) (by omega) (by rw [hz0, e])
            omega
          · simp at e
            omega
        obtain ⟨c, c1, c2⟩ := digs_ex (by omega) (t.map Int.toNat) hd
        rw [List.length_map, ht] at c1 c2
        refine ⟨c, c1, ?_⟩
        have e : psOf h.length c = (-1) :: t := by
          unfold psOf
          rw [c2, List.map_map]
          congr 1
          refine List.ext_getElem (by simp) fun i h1 h2 => ?_
          simp only [List.getElem_map, Function.comp]
          have := hnn t[i] (List.getElem_mem h2)
          omega
        rw [e]
        exact hJ
  · rintro (h0 | ⟨c, _, hJ⟩)
    · have := leftI_len h
      omega
    · obtain ⟨m, hm⟩ := joins_red hJ h.length (List.replicate h.length true) (by simp) (by simp) fun x hx _ p hp => by
        have T := treeT_of hJ.2.1
        rcases T.up x hx with ⟨f0, _⟩ | ⟨q, hq, f0, _⟩
        · rw [f0] at hp; omega
        · have : q = p := by rw [f0] at hp; omega
          subst this
          rw [thB_at (by simp; have := hJ.1; omega)]
          simp
      exact greedy_of hm
end Go.Proofs.Ytpdkacfhnmfmaaa
