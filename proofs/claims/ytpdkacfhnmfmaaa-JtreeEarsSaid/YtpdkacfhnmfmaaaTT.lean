/- Layer 22: the parents that ears tell, by the program; the law of join trees. Condition: numbers that an int holds. -/
import Derived.Test.YtpdkacfhnmfmaaaEE

/- Layers 22 and 23: trees by lists of parents: plain mathematics. No condition. -/
namespace Go.Proofs.Ytpdkacfhnmfmaaa

/-- A node and what is above it, no more than so many. -/
def upL (ps : List Int) : Nat → Int → List Int
  | 0, _ => []
  | f + 1, i => if 0 ≤ i ∧ i < ps.length then i :: upL ps f (ps.getD i.toNat (-1)) else []
def upI (ps : List Int) (i : Int) : List Int := upL ps ps.length i
theorem upL_out {ps : List Int} {f : Nat} {i : Int} (h : ¬ (0 ≤ i ∧ i < ps.length)) : upL ps f i = [] := by
  cases f with
  | zero => rfl
  | succ f => show (if 0 ≤ i ∧ i < ps.length then i :: upL ps f (ps.getD i.toNat (-1)) else []) = []; rw [if_neg h]
theorem upL_in {ps : List Int} {f j : Nat} (h : j < ps.length) : upL ps (f + 1) (j : Int) = (j : Int) :: upL ps f ps[j] := by
  show (if 0 ≤ (j : Int) ∧ (j : Int) < ps.length then (j : Int) :: upL ps f (ps.getD (j : Int).toNat (-1)) else []) = _
  rw [if_pos ⟨by omega, by omega⟩, Int.toNat_natCast, List.getD_eq_getElem?_getD, List.getElem?_eq_getElem h]
  rfl
theorem upL_mem {ps : List Int} {f : Nat} : ∀ {i x : Int}, x ∈ upL ps f i → 0 ≤ x ∧ x < ps.length := by
  induction f with
  | zero => intro i x h; cases h
  | succ f ih =>
    intro i x h
    unfold upL at h
    split at h
    · rename_i hc
      rcases List.mem_cons.1 h with e | h
      · subst e; exact hc
      · exact ih h
    · cases h
theorem upL_len (ps : List Int) (f : Nat) : ∀ i : Int, (upL ps f i).length ≤ f := by
  induction f with
  | zero => intro i; exact Nat.le_refl _
  | succ f ih =>
    intro i
    unfold upL
    split
    · have := ih (ps.getD i.toNat (-1))
      rw [List.length_cons]
      omega
    · exact Nat.zero_le _
/-- A node's own parent; the last one's above it. -/
def parI (ps : List Int) (i : Int) : Int := ps.getD i.toNat (-1)
def lastUp (ps : List Int) (i : Nat) : Int := parI ps ((upI ps i).getLastD 0)
def rootsL22 (ps : List Int) (m : Nat) : List Nat := (List.range m).filter fun i => ps.getD i (-1) == -1
def treeB (ps : List Int) : Bool := ((List.range ps.length).all fun i => lastUp ps i == -1) && (ps.length == 0 || (rootsL22 ps ps.length).length == 1)
def meetI (x y : List Int) : Int := (x.find? fun z => decide (z ∈ y)).getD (-1)
def pathB (ps : List Int) (a b c : Int) : Bool := (decide (c ∈ upI ps a) || decide (c ∈ upI ps b)) && decide (meetI (upI ps a) (upI ps b) ∈ upI ps c)
/-- A tree of parents that ears tell: each node's rank is less than its parent's, and what it has in common with those of a higher rank its parent has. -/
structure Ranked (h : List (List Int)) (ps : List Int) (rk : Nat → Nat) : Prop where
  len : ps.length = h.length
  low : ∀ x, x < h.length → 1 ≤ rk x ∧ rk x ≤ h.length
  up : ∀ x (hx : x < ps.length), (ps[x] = -1 ∧ rk x = h.length) ∨ ∃ p : Nat, p < h.length ∧ ps[x] = (p : Int) ∧ rk x < rk p ∧ ∀ b, b < h.length → b ≠ x → rk x < rk b → ∀ v, v ∈ edgeAt h x → v ∈ edgeAt h b → v ∈ edgeAt h p
  inj : ∀ x y, x < h.length → y < h.length → rk x = rk y → x = y
section
variable {h : List (List Int)} {ps : List Int} {rk : Nat → Nat}
theorem Ranked.stable (R : Ranked h ps rk) : ∀ (d x : Nat), x < h.length → h.length - rk x ≤ d → ∀ f, d + 1 ≤ f → upL ps f (x : Int) = upL ps (d + 1) (x : Int) := by
  intro d
  induction d with
  | zero =>
    intro x hx hd f hf
    obtain ⟨f, rfl⟩ : ∃ g, f = g + 1 := ⟨f - 1, by omega⟩
    have hxp : x < ps.length := by rw [R.len]; exact hx
    rw [upL_in hxp, upL_in hxp]
    rcases R.up x hxp with ⟨e, _⟩ | ⟨p, hp, e, hr, _⟩
    · rw [e, upL_out (by omega), upL_out (by omega)]
    · have := (R.low p hp).2; omega
  | succ d ih =>
    intro x hx hd f hf
    obtain ⟨f, rfl⟩ : ∃ g, f = g + 1 := ⟨f - 1, by omega⟩
    have hxp : x < ps.length := by rw [R.len]; exact hx
    rw [upL_in hxp, upL_in hxp]
    rcases R.up x hxp with ⟨e, _⟩ | ⟨p, hp, e, hr, _⟩
    · rw [e, upL_out (by omega), upL_out (by omega)]
    · rw [e, ih p hp (by omega) f (by omega)]
theorem Ranked.root (_R : Ranked h ps rk) {x : Nat} (hx : x < ps.length) (e : ps[x] = -1) : upI ps x = [(x : Int)] := by
  unfold upI
  obtain ⟨n, hn⟩ : ∃ n, ps.length = n + 1 := ⟨ps.length - 1, by omega⟩
  rw [hn, upL_in hx, e, upL_out (by omega)]
theorem Ranked.step (R : Ranked h ps rk) {x p : Nat} (hx : x < ps.length) (hp : p < h.length) (e : ps[x] = (p : Int)) (hr : rk x < rk p) : upI ps x = (x : Int) :: upI ps p := by
  unfold upI
  have hxh : x < h.length := by rw [← R.len]; exact hx
  have h1 := (R.low x hxh).1
  have h2 := (R.low p hp).2
  obtain ⟨n, hn⟩ : ∃ n, ps.length = n + 2 := ⟨ps.length - 2, by have := R.len; omega⟩
  rw [hn, upL_in hx, e, R.stable n p hp (by have := R.len; omega) (n + 2) (by omega)]
theorem Ranked.above (R : Ranked h ps rk) : ∀ (d x : Nat), x < h.length → h.length - rk x ≤ d → ∀ y, y ∈ upI ps (x : Int) → ∃ z : Nat, y = (z : Int) ∧ z < h.length ∧ (z = x ∨ rk x < rk z) := by
  intro d
  induction d with
  | zero =>
    intro x hx hd y hy
    have hxp : x < ps.length := by rw [R.len]; exact hx
    rcases R.up x hxp with ⟨e, _⟩ | ⟨p, hp, e, hr, _⟩
    · rw [R.root hxp e] at hy
      exact ⟨x, List.mem_singleton.1 hy, hx, Or.inl rfl⟩
    · have := (R.low p hp).2; omega
  | succ d ih =>
    intro x hx hd y hy
    have hxp : x < ps.length := by rw [R.len]; exact hx
    rcases R.up x hxp with ⟨e, _⟩ | ⟨p, hp, e, hr, _⟩
    · rw [R.root hxp e] at hy
      exact ⟨x, List.mem_singleton.1 hy, hx, Or.inl rfl⟩
    · rw [R.step hxp hp e hr] at hy
      rcases List.mem_cons.1 hy with hy | hy
      · exact ⟨x, hy, hx, Or.inl rfl⟩
      · obtain ⟨z, h1, h2, h3⟩ := ih p hp (by omega) y hy
        refine ⟨z, h1, h2, Or.inr ?_⟩
        rcases h3 with h3 | h3
        · subst h3; exact hr
        · omega
theorem Ranked.self (R : Ranked h ps rk) {x : Nat} (hx : x < h.length) : (x : Int) ∈ upI ps x := by
  have hxp : x < ps.length := by rw [R.len]; exact hx
  rcases R.up x hxp with ⟨e, _⟩ | ⟨p, hp, e, hr, _⟩
  · rw [R.root hxp e]; simp
  · rw [R.step hxp hp e hr]; simp
theorem Ranked.last (R : Ranked h ps rk) : ∀ (d x : Nat), x < h.length → h.length - rk x ≤ d → ∃ r : Nat, r < h.length ∧ (upI ps (x : Int)).getLastD 0 = (r : Int) ∧ upI ps (x : Int) ≠ [] ∧ ps.getD r (-1) = -1 ∧ rk r = h.length := by
  intro d
  induction d with
  | zero =>
    intro x hx hd
    have hxp : x < ps.length := by rw [R.len]; exact hx
    rcases R.up x hxp with ⟨e, e2⟩ | ⟨p, hp, e, hr, _⟩
    · rw [R.root hxp e]
      exact ⟨x, hx, rfl, by simp, by rw [List.getD_eq_getElem?_getD, List.getElem?_eq_getElem hxp]; exact e, e2⟩
    · have := (R.low p hp).2; omega
  | succ d ih =>
    intro x hx hd
    have hxp : x < ps.length := by rw [R.len]; exact hx
    rcases R.up x hxp with ⟨e, e2⟩ | ⟨p, hp, e, hr, _⟩
    · rw [R.root hxp e]
      exact ⟨x, hx, rfl, by simp, by rw [List.getD_eq_getElem?_getD, List.getElem?_eq_getElem hxp]; exact e, e2⟩
    · obtain ⟨r, h1, h2, h3, h4, h5⟩ := ih p hp (by omega)
      rw [R.step hxp hp e hr]
      refine ⟨r, h1, ?_, by simp, h4, h5⟩
      cases hu : upI ps (p : Int) with
      | nil => exact absurd hu h3
      | cons a t => rw [hu] at h2; simpa using h2
theorem len_one {l : List Nat} {r : Nat} (hn : l.Nodup) (h : ∀ x ∈ l, x = r) (hr : r ∈ l) : l.length = 1 := by
  match l with
  | [] => cases hr
  | [a] => rfl
  | a :: b :: t =>
    have h1 := h a (by simp)
    have h2 := h b (by simp)
    subst h1
    subst h2
    simp at hn
theorem Ranked.tree (R : Ranked h ps rk) : treeB ps = true := by
  unfold treeB
  rw [Bool.and_eq_true]
  constructor
  · rw [List.all_eq_true]
    intro i hi
    have hi' : i < h.length := by rw [← R.len]; exact List.mem_range.1 hi
    obtain ⟨r, h1, h2, _, h4, _⟩ := R.last (h.length - rk i) i hi' (Nat.le_refl _)
    unfold lastUp parI
    rw [h2, Int.toNat_natCast, h4]
    rfl
  · by_cases h0 : h.length = 0
    · rw [R.len, h0]; rfl
    · obtain ⟨r, h1, _, _, h4, h5⟩ := R.last (h.length - rk 0) 0 (by omega) (Nat.le_refl _)
      have : (rootsL22 ps ps.length).length = 1 := by
        refine len_one (r := r) (List.Pairwise.filter _ List.nodup_range) (fun x hx => ?_) ?_
        · unfold rootsL22 at hx
          rw [List.mem_filter] at hx
          have hxp := List.mem_range.1 hx.1
          have hxh : x < h.length := by rw [← R.len]; exact hxp
          rcases R.up x hxp with ⟨_, e2⟩ | ⟨p, hp, e, hr, _⟩
          · exact R.inj x r hxh h1 (by rw [e2, h5])
          · have h6 := hx.2
            rw [List.getD_eq_getElem?_getD, List.getElem?_eq_getElem hxp] at h6
            simp only [Option.getD_some, beq_iff_eq] at h6
            omega
        · unfold rootsL22
          rw [List.mem_filter]
          exact ⟨List.mem_range.2 (by rw [R.len]; exact h1), by rw [h4]; rfl⟩
      rw [this]
      simp
theorem meet_cons {x : Int} {l y : List Int} (hx : x ∉ y) : meetI (x :: l) y = meetI l y := by
  unfold meetI
  rw [List.find?_cons_of_neg (by simpa using hx)]
theorem meet_head {x : Int} {l y : List Int} (hx : x ∈ y) : meetI (x :: l) y = x := by
  unfold meetI
  rw [List.find?_cons_of_pos (by simpa using hx)]
  rfl
theorem meet_right {x : Int} {l y : List Int} (hx : x ∉ l) : meetI l (x :: y) = meetI l y := by
  unfold meetI
  congr 1
  induction l with
  | nil => rfl
  | cons a t ih =>
    have ha : a ≠ x := fun e => hx (by rw [e]; simp)
    have ht : x ∉ t := fun e => hx (by simp [e])
    by_cases h : a ∈ y
    · rw [List.find?_cons_of_pos (by simp [h]), List.find?_cons_of_pos (by simpa using h)]
    · rw [List.find?_cons_of_neg (by simp [h, ha]), List.find?_cons_of_neg (by simpa using h)]
      exact ih ht
theorem Ranked.not_above (R : Ranked h ps rk) {x y : Nat} (hx : x < h.length) (hr : rk y < rk x) : (y : Int) ∉ upI ps x := fun hm => by
  obtain ⟨z, h1, _, h3⟩ := R.above (h.length - rk x) x hx (Nat.le_refl _) _ hm
  have : z = y := by omega
  subst this
  rcases h3 with h3 | h3
  · subst h3; omega
  · omega
theorem Ranked.joins (R : Ranked h ps rk) (v : Int) : ∀ (m a b : Nat), a < h.length → b < h.length → (h.length - rk a) + (h.length - rk b) ≤ m → ∀ c : Nat, c < h.length → pathB ps a b c = true → v ∈ edgeAt h a → v ∈ edgeAt h b → v ∈ edgeAt h c := by
  intro m
  induction m with
  | zero =>
    intro a b ha hb hm c hc hp hva hvb
    have e : a = b := R.inj a b ha hb (by have := (R.low a ha).2; have := (R.low b hb).2; omega)
    subst e
    have hap : a < ps.length := by rw [R.len]; exact ha
    rcases R.up a hap with ⟨e, e2⟩ | ⟨p, hp', e, hr, _⟩
    · unfold pathB at hp
      rw [R.root hap e] at hp
      simp only [Bool.and_eq_true, Bool.or_eq_true, decide_eq_true_eq, List.mem_singleton] at hp
      have : (c : Int) = a := by rcases hp.1 with h | h <;> exact h
      have : c = a := by omega
      subst this; exact hva
    · have := (R.low p hp').2; omega
  | succ m ih =>
    intro a b ha hb hm c hc hp hva hvb
    have hap : a < ps.length := by rw [R.len]; exact ha
    have hbp : b < ps.length := by rw [R.len]; exact hb
    have hla := R.low a ha
    have hlb := R.low b hb
    rcases Nat.lt_trichotomy (rk a) (rk b) with hlt | heq | hgt
    · rcases R.up a hap with ⟨_, e2⟩ | ⟨p, hp', e, hr, hj⟩
      · omega
      · have hstep := R.step hap hp' e hr
        have hna := R.not_above hb hlt
        have hvp := hj b hb (fun e => by subst e; omega) hlt v hva hvb
        unfold pathB at hp
        rw [hstep, meet_cons hna] at hp
        simp only [Bool.and_eq_true, Bool.or_eq_true, decide_eq_true_eq, List.mem_cons] at hp
        obtain ⟨h1, h2⟩ := hp
        have key : ((c : Int) ∈ upI ps p ∨ (c : Int) ∈ upI ps b) → v ∈ edgeAt h c := fun h3 => by
          refine ih p b hp' hb (by have := (R.low p hp').2; omega) c hc ?_ hvp hvb
          unfold pathB
          simp only [Bool.and_eq_true, Bool.or_eq_true, decide_eq_true_eq]
          exact ⟨h3, h2⟩
        rcases h1 with (h1 | h1) | h1
        · have : c = a := by omega
          subst this; exact hva
        · exact key (Or.inl h1)
        · exact key (Or.inr h1)
    · have e : a = b := R.inj a b ha hb heq
      subst e
      have hself := R.self ha
      unfold pathB at hp
      simp only [Bool.and_eq_true, Bool.or_eq_true, decide_eq_true_eq, or_self] at hp
      obtain ⟨h1, h2⟩ := hp
      have hmeet : meetI (upI ps a) (upI ps a) = (a : Int) := by
        have hhead : ∃ t, upI ps (a : Int) = (a : Int) :: t := by
          rcases R.up a hap with ⟨e, _⟩ | ⟨p, hp', e, hr, _⟩
          · exact ⟨[], R.root hap e⟩
          · exact ⟨_, R.step hap hp' e hr⟩
        obtain ⟨t, ht⟩ := hhead
        rw [ht] at hself ⊢
        exact meet_head hself
      rw [hmeet] at h2
      obtain ⟨z, e1, _, h3⟩ := R.above (h.length - rk a) a ha (Nat.le_refl _) _ h1
      obtain ⟨y, e2, _, h4⟩ := R.above (h.length - rk c) c hc (Nat.le_refl _) _ h2
      have hz : z = c := by omega
      have hy : y = a := by omega
      subst hz
      subst hy
      rcases h3 with h3 | h3
      · subst h3; exact hva
      · rcases h4 with h4 | h4
        · subst h4; exact hva
        · omega
    · rcases R.up b hbp with ⟨_, e2⟩ | ⟨p, hp', e, hr, hj⟩
      · omega
      · have hstep := R.step hbp hp' e hr
        have hnb := R.not_above ha hgt
        have hvp := hj a ha (fun e => by subst e; omega) hgt v hvb hva
        unfold pathB at hp
        rw [hstep, meet_right hnb] at hp
        simp only [Bool.and_eq_true, Bool.or_eq_true, decide_eq_true_eq, List.mem_cons] at hp
        obtain ⟨h1, h2⟩ := hp
        have key : ((c : Int) ∈ upI ps a ∨ (c : Int) ∈ upI ps p) → v ∈ edgeAt h c := fun h3 => by
          refine ih a p ha hp' (by have := (R.low p hp').2; omega) c hc ?_ hva hvp
          unfold pathB
          simp only [Bool.and_eq_true, Bool.or_eq_true, decide_eq_true_eq]
          exact ⟨h3, h2⟩
        rcases h1 with h1 | h1 | h1
        · exact key (Or.inl h1)
        · have : c = b := by omega
          subst this; exact hvb
        · exact key (Or.inr h1)
end
/-- Parents by ears. -/
def parE (n : Nat) (E : List (Nat × Nat)) : List Int := E.foldl (fun l e => l.set e.1 (e.2 : Int)) (List.replicate n (-1))
theorem parE_snoc (n : Nat) (E : List (Nat × Nat)) (e : Nat × Nat) : parE n (E ++ [e]) = (parE n E).set e.1 (e.2 : Int) := by
  unfold parE
  rw [List.foldl_append]
  rfl
theorem parE_len (n : Nat) (E : List (Nat × Nat)) : (parE n E).length = n := by
  unfold parE
  have : ∀ (E : List (Nat × Nat)) (l : List Int), (E.foldl (fun l e => l.set e.1 (e.2 : Int)) l).length = l.length := by
    intro E
    induction E with
    | nil => intro l; rfl
    | cons a t ih => intro l; rw [List.foldl_cons, ih]; simp
  rw [this]; simp
/-- The ranks, while ears are removed. -/
def rkS (h : List (List Int)) : Nat → Nat → Nat
  | 0 => fun _ => h.length
  | k + 1 => match stepE h (earsS h k).2 with
    | none => rkS h k
    | some (i, _) => fun x => if x = i then (earsS h k).1.length + 1 else rkS h k x
structure RkI (h : List (List Int)) (E : List (Nat × Nat)) (L : List Bool) (rk : Nat → Nat) : Prop where
  left : ∀ x, x < h.length → thB L x = true → rk x = h.length ∧ (parE h.length E)[x]? = some (-1)
  gone : ∀ x, x < h.length → thB L x = false → 1 ≤ rk x ∧ rk x ≤ E.length ∧ ∃ p : Nat, p < h.length ∧ (parE h.length E)[x]? = some (p : Int) ∧ rk x < rk p ∧ ∀ b, b < h.length → b ≠ x → rk x < rk b → ∀ v, v ∈ edgeAt h x → v ∈ edgeAt h b → v ∈ edgeAt h p
  inj : ∀ x y, x < h.length → y < h.length → thB L x = false → thB L y = false → rk x = rk y → x = y
theorem rkI (h : List (List Int)) (k : Nat) : RkI h (earsS h k).1 (earsS h k).2 (rkS h k) := by
  induction k with
  | zero =>
    have hL : ∀ x, x < h.length → thB (earsS h 0).2 x = true := fun x hx => by
      show thB (List.replicate h.length true) x = true
      rw [thB_at (by simpa using hx)]
      simp
    refine ⟨fun x hx _ => ⟨rfl, ?_⟩, fun x hx h2 => ?_, fun x y hx _ h2 => ?_⟩
    · show (List.replicate h.length (-1 : Int))[x]? = _
      simp [hx]
    · rw [hL x hx] at h2; cases h2
    · rw [hL x hx] at h2; cases h2
  | succ k ih =>
    cases hs : stepE h (earsS h k).2 with
    | none =>
      have e : rkS h (k + 1) = rkS h k := by
        show (match stepE h (earsS h k).2 with | none => rkS h k | some (i, _) => fun x => if x = i then (earsS h k).1.length + 1 else rkS h k x) = _
        rw [hs]
      rw [earsS_none hs, e]
      exact ih
    | some q =>
      obtain ⟨i, p⟩ := q
      have e : rkS h (k + 1) = fun x => if x = i then (earsS h k).1.length + 1 else rkS h k x := by
        show (match stepE h (earsS h k).2 with | none => rkS h k | some (i, _) => fun x => if x = i then (earsS h k).1.length + 1 else rkS h k x) = _
        rw [hs]
      obtain ⟨hi, hear⟩ := stepE_inv hs
      obtain ⟨_, hti, hp, hpi, htp, hok⟩ := earP_inv hear
      have hcount := earsS_count h (k + 1)
      rw [earsS_some hs] at hcount
      simp only [List.length_append, List.length_singleton] at hcount
      have hpos : 0 < ((earsS h k).2.set i false).count true := by
        have h1 : thB ((earsS h k).2.set i false) p = true := by
          rw [thB_set, htp]
          simpa using hpi
        have h2 := thB_lt h1
        rw [thB_at h2] at h1
        exact List.count_pos_iff.2 (by rw [← h1]; exact List.getElem_mem h2)
      rw [earsS_some hs, e]
      generalize (earsS h k).1 = E at *
      generalize (earsS h k).2 = L at *
      generalize rkS h k = rk at *
      have hE : E.length + 2 ≤ h.length := by omega
      have hset : ∀ x, thB (L.set i false) x = (thB L x && (x != i)) := fun x => thB_set
      have hli : i < (parE h.length E).length := by rw [parE_len]; exact hi
      refine ⟨fun x hx hl => ?_, fun x hx hl => ?_, fun x y hx hy hlx hly hxy => ?_⟩
      · rw [hset, Bool.and_eq_true, bne_iff_ne] at hl
        obtain ⟨h1, h2⟩ := ih.left x hx hl.1
        simp only [if_neg hl.2]
        refine ⟨h1, ?_⟩
        rw [parE_snoc, List.getElem?_set_ne (fun e => hl.2 e.symm)]
        exact h2
      · by_cases hxi : x = i
        · subst hxi
          simp only [if_true, List.length_append, List.length_singleton]
          refine ⟨by omega, by omega, p, hp, ?_, ?_, fun b hb hbx hr v h1 h2 => ?_⟩
          · rw [parE_snoc, List.getElem?_set_self hli]
          · rw [if_neg hpi, (ih.left p hp htp).1]; omega
          · rw [if_neg hbx] at hr
            have htb : thB L b = true := by
              cases hb2 : thB L b
              · have := (ih.gone b hb hb2).2.1; omega
              · rfl
            exact earOk_iff.1 hok b hb hbx htb v h1 h2
        · have hl0 : thB L x = false := by
            rw [hset] at hl
            have : (x != i) = true := by simpa using hxi
            rw [this, Bool.and_true] at hl
            exact hl
          obtain ⟨h1, h2, p', hp', h3, h4, h5⟩ := ih.gone x hx hl0
          simp only [if_neg hxi, List.length_append, List.length_singleton]
          refine ⟨h1, by omega, p', hp', ?_, ?_, fun b hb hbx hr v hv1 hv2 => ?_⟩
          · rw [parE_snoc, List.getElem?_set_ne (fun e => hxi e.symm)]
            exact h3
          · split
            · omega
            · exact h4
          · refine h5 b hb hbx ?_ v hv1 hv2
            split at hr
            · rename_i e
              subst e
              rw [(ih.left b hb hti).1]; omega
            · exact hr
      · have hz : ∀ x, x < h.length → thB (L.set i false) x = false → x ≠ i → thB L x = false := fun x _ hl hxi => by
          rw [hset] at hl
          have : (x != i) = true := by simpa using hxi
          rw [this, Bool.and_true] at hl
          exact hl
        by_cases hxi : x = i
        · by_cases hyi : y = i
          · rw [hxi, hyi]
          · simp only [if_pos hxi, if_neg hyi] at hxy
            have := (ih.gone y hy (hz y hy hly hyi)).2.1
            omega
        · by_cases hyi : y = i
          · simp only [if_neg hxi, if_pos hyi] at hxy
            have := (ih.gone x hx (hz x hx hlx hxi)).2.1
            omega
          · simp only [if_neg hxi, if_neg hyi] at hxy
            exact ih.inj x y hx hy (hz x hx hlx hxi) (hz y hy hly hyi) hxy
theorem count_two {L : List Bool} : ∀ {x y : Nat}, x < y → thB L x = true → thB L y = true → 2 ≤ L.count true := by
  induction L with
  | nil => intro x y _ h; unfold thB at h; simp at h
  | cons a t ih =>
    intro x y hxy hx hy
    obtain ⟨y, rfl⟩ : ∃ z, y = z + 1 := ⟨y - 1, by omega⟩
    have hy' : thB t y = true := by unfold thB at *; simpa using hy
    cases x with
    | zero =>
      have ha : a = true := by unfold thB at hx; simpa using hx
      subst ha
      have h2 := thB_lt hy'
      rw [thB_at h2] at hy'
      have : 0 < t.count true := List.count_pos_iff.2 (by rw [← hy']; exact List.getElem_mem h2)
      rw [List.count_cons_self]
      omega
    | succ x =>
      have hx' : thB t x = true := by unfold thB at *; simpa using hx
      have := ih (by omega) hx' hy'
      have := List.count_le_count_cons (a := true) (b := a) (l := t)
      omega
/-- The parents of an acyclic hypergraph, by ears, with their ranks. -/
theorem ears_ranked {h : List (List Int)} (ha : h.length - (earsS h h.length).1.length ≤ 1) : Ranked h (parE h.length (earsS h h.length).1) (rkS h h.length) := by
  have I := rkI h h.length
  have hc := earsS_count h h.length
  generalize (earsS h h.length).1 = E at *
  generalize (earsS h h.length).2 = L at *
  generalize rkS h h.length = rk at *
  have hone : ∀ x y, x < y → thB L x = true → thB L y = true → False := fun x y hxy h1 h2 => by
    have := count_two hxy h1 h2
    omega
  have hEn : ∀ x, x < h.length → thB L x = false → E.length < h.length := fun x hx h1 => by
    obtain ⟨a1, a2, p, hp, _, h4, _⟩ := I.gone x hx h1
    cases hp2 : thB L p
    · have b := I.gone p hp hp2
      rcases Nat.lt_or_ge E.length h.length with h5 | h5
      · exact h5
      · exfalso
        -- nothing is left: the highest rank has a parent of a higher one
        have hall : ∀ y, y < h.length → thB L y = false := fun y hy => by
          cases hy2 : thB L y
          · rfl
          · have h6 := thB_lt hy2
            rw [thB_at h6] at hy2
            have : 0 < L.count true := List.count_pos_iff.2 (by rw [← hy2]; exact List.getElem_mem h6)
            omega
        have hno : ∀ (d x : Nat), x < h.length → E.length - rk x ≤ d → False := by
          intro d
          induction d with
          | zero =>
            intro x hx hd
            obtain ⟨b1, b2, p, hp, _, b4, _⟩ := I.gone x hx (hall x hx)
            have := (I.gone p hp (hall p hp)).2.1
            omega
          | succ d ih =>
            intro x hx hd
            obtain ⟨b1, b2, p, hp, _, b4, _⟩ := I.gone x hx (hall x hx)
            exact ih p hp (by omega)
        exact hno _ x hx (Nat.le_refl _)
    · have h6 := thB_lt hp2
      rw [thB_at h6] at hp2
      have : 0 < L.count true := List.count_pos_iff.2 (by rw [← hp2]; exact List.getElem_mem h6)
      omega
  refine ⟨parE_len _ _, fun x hx => ?_, fun x hx => ?_, fun x y hx hy hxy => ?_⟩
  · cases h1 : thB L x
    · have := I.gone x hx h1; omega
    · have := (I.left x hx h1).1; omega
  · have hxh : x < h.length := by rwa [parE_len] at hx
    cases h1 : thB L x
    · obtain ⟨_, _, p, hp, h3, h4, h5⟩ := I.gone x hxh h1
      rw [List.getElem?_eq_getElem hx] at h3
      injection h3 with h3
      exact Or.inr ⟨p, hp, h3, h4, h5⟩
    · obtain ⟨h2, h3⟩ := I.left x hxh h1
      rw [List.getElem?_eq_getElem hx] at h3
      injection h3 with h3
      exact Or.inl ⟨h3, h2⟩
  · cases h1 : thB L x
    · cases h2 : thB L y
      · exact I.inj x y hx hy h1 h2 hxy
      · have a := (I.gone x hx h1).2.1
        have b := hEn x hx h1
        have c := (I.left y hy h2).1
        omega
    · cases h2 : thB L y
      · have a := (I.gone y hy h2).2.1
        have b := hEn y hy h2
        have c := (I.left x hx h1).1
        omega
      · rcases Nat.lt_trichotomy x y with h3 | h3 | h3
        · exact (hone x y h3 h1 h2).elim
        · exact h3
        · exact (hone y x h3 h2 h1).elim
end Go.Proofs.Ytpdkacfhnmfmaaa

/- Layer 22: ways up, trees, ways between two nodes, by the document. Condition: no more than a thousand nodes. -/
namespace Go.Proofs.Ytpdkacfhnmfmaaa
open Go.RowKit
attribute [local go_sem] more_cell more_frozen more_more more_setCell more_of_drew more_of_drewN lt_more le_more past_cell past_cell2 past_frozen past_frozen2 past_setCell past_setCell2 mid_cell mid_frozen mid_setCell
attribute [local go_sem ↓] Go.wp_at_zero Go.wp_at_succ

def UpAt (w : World) (ps full : List Int) (x1 x5 x6 : Value) (wr : World) : Prop := ∃ (q : Nat) (i : Int) (A : Option Addr) (c : Nat) (done : List Int), q ≤ ps.length ∧ x1 = .int .i64 i ∧ x5 = .slice A done.length c ∧ x6 = .int .i64 q ∧ Grew w wr ∧
  wr.ownsRow w.heap.size 3 1 (.slice A done.length c) done.length (iV done) ∧ done.length ≤ q ∧ done ++ upL ps (ps.length - q) i = full
set_option maxHeartbeats 1000000 in
set_option maxRecDepth 100000 in
theorem rup22_any (ps : List Int) (hl : ps.length ≤ 1000) (A : Option Addr) (k : Nat) (i : Int) (w : World) (ra : Row w A (iV ps)) :
    Calls Try.prog 38 #[.slice A ps.length k, .int .i64 i] w (OwnI w (upI ps i)) := by
  have RA := Lib.hid ra
  clear ra
  obtain ⟨full, hfull⟩ : ∃ full, upI ps i = full := ⟨_, rfl⟩
  rw [hfull]
  have H0 : Hid ([] ++ upL ps (ps.length - 0) i = full) := Lib.hid hfull
  have HFin : Hid (∀ A c W done, done = full → Grew w W → W.ownsRow w.heap.size 3 1 (.slice A done.length c) done.length (iV done) → OwnI w full (.returned (.slice A done.length c)) W) := Lib.hid fun A c W done e hW ho => by
    subst e
    exact ⟨A, c, rfl, hW, ho⟩
  clear hfull
  generalize OwnI w full = F at *
  go_enter Try.func38, Try.ntmps38
  go_wp2
  go_loopw [1, 5, 6] (fun x1 x5 x6 wr => UpAt w ps full x1 x5 x6 wr) (fun _ _ x _ => ps.length - (intOf x).toNat)
  case atStart => exact ⟨0, i, none, 0, [], Nat.zero_le _, rfl, rfl, rfl, Grew.refl w, own_none _ _ _ _, Nat.le_refl _, H0.out⟩
  case round =>
    obtain ⟨q, x, A1, c1, done, hq, rfl, rfl, rfl, hg, ho, hdq, hd⟩ := hrel
    have HG := Lib.hid hg
    have HO := Lib.hid ho
    have HD := Lib.hid hd
    have hws := hg.size
    clear hg ho hd H0
    by_cases h1 : q < ps.length
    · have e1 : decide ((q : Int) < (ps.length : Int)) = true := decide_eq_true (by omega)
      by_cases h2 : 0 ≤ x
      · have e2 : decide ((0 : Int) ≤ x) = true := decide_eq_true h2
        by_cases h3 : x < (ps.length : Int)
        · have e3 : decide (x < (ps.length : Int)) = true := decide_eq_true h3
          obtain ⟨j, rfl⟩ : ∃ j : Nat, x = (j : Int) := ⟨x.toNat, by omega⟩
          have hjp : j < ps.length := by omega
          obtain ⟨b, o, rfl, hb, hc⟩ := rowI_at (RA.out.grew HG.out) hjp
          have HD2 : Hid ((done ++ [(j : Int)]) ++ upL ps (ps.length - (q + 1)) ps[j] = full) := Lib.hid (by
            have := HD.out
            rw [show ps.length - q = (ps.length - (q + 1)) + 1 by omega, upL_in hjp] at this
            rw [← this]
            simp)
          have HC := Lib.hid (fun W (hW : Grew wr W) => (hW.cell (a := ⟨b, o + j, none⟩) hb).trans hc)
          clear hc HD
          generalize ps[j] = y at *
          go_upto_region 6 with (at_builtin; refine wpList_appB rfl _ _ 25 3 1 rfl w.heap.size (.int .i64 0) 8 Try.underlying25 infoI rfl (by decide) (by decide) _ done.length (iV done) rfl (own_alloc HO.out _) _ 1 1 [.int .i64 j] rfl rfl (row_one _ _ _ _ rfl) (by simp [Value.oneCell']) (by omega) (by rw [World.size_alloc]; omega) ?_; intro A9 c9 w9 ho9 hg9; have HG9 := Lib.hid ((HG.out.alloc (.cells #[.int .i64 j] 3)).grown hg9 (own_base HO.out)); have HO9 := Lib.hid ho9; clear ho9 hg9)
          obtain ⟨b2, o2, hA2, hb2, hc2⟩ := rowI_at (RA.out.grew HG9.out) hjp
          injection hA2 with hA2
          injection hA2 with e21 e22 _
          subst e21 e22
          have hy : Hid (ps[j] = y) := Lib.hid (by
            obtain ⟨b4, o4, hA4, hb4, hc4⟩ := rowI_at (RA.out.grew HG.out) hjp
            injection hA4 with hA4
            injection hA4 with e41 e42 _
            subst e41 e42
            have := HC.out wr (Grew.refl wr)
            rw [hc4] at this
            injection this with this
            injection this with _ this)
          rw [hy.out] at hc2
          clear hb HC hy
          go_wp2
          exact ⟨⟨q + 1, y, A9, c9, done ++ [(j : Int)], by omega, rfl, by simp, by go_num, HG9.out, by rw [List.length_append, ← iV_snoc]; exact HO9.out, by simp; omega, HD2.out⟩, by simp only [intOf]; omega⟩
        · have e3 : decide (x < (ps.length : Int)) = false := decide_eq_false h3
          have HF := Lib.hid (HFin.out A1 c1 wr done (by have := HD.out; rwa [upL_out (by omega), List.append_nil] at this) HG.out HO.out)
          have h3' : (ps.length : Int) ≤ x := by omega
          clear HD h3
          generalize done.length = dn at *
          go_wp2
          first | exact HF.out | (go_ret; exact HF.out)
      · have e2 : decide ((0 : Int) ≤ x) = false := decide_eq_false h2
        have HF := Lib.hid (HFin.out A1 c1 wr done (by have := HD.out; rwa [upL_out (by omega), List.append_nil] at this) HG.out HO.out)
        have h2' : x < 0 := by omega
        clear HD h2
        generalize done.length = dn at *
        go_wp2
        first | exact HF.out | (go_ret; exact HF.out)
    · obtain rfl : q = ps.length := by omega
      have e1 : decide ((ps.length : Int) < (ps.length : Int)) = false := decide_eq_false (by omega)
      have HF := Lib.hid (HFin.out A1 c1 wr done (by have := HD.out; rw [Nat.sub_self] at this; simpa [upL] using this) HG.out HO.out)
      clear HD
      generalize done.length = dn at *
      go_wp2
      first | exact HF.out | (go_ret; exact HF.out)
theorem meet_at {x y : List Int} {j : Nat} (hj : j < x.length) (hn : ∀ z ∈ x.take j, z ∉ y) (h : x[j] ∈ y) : meetI x y = x[j] := by
  induction x generalizing j with
  | nil => simp at hj
  | cons a t ih =>
    cases j with
    | zero => exact meet_head h
    | succ j =>
      rw [meet_cons (hn a (by simp))]
      exact ih (by simpa using hj) (fun z hz => hn z (by simp [hz])) h
theorem meet_no {x y : List Int} (hn : ∀ z ∈ x, z ∉ y) : meetI x y = -1 := by
  unfold meetI
  rw [List.find?_eq_none.2 (fun z hz => by simpa using hn z hz)]
  rfl
def MeAt (w : World) (x y : List Int) (v11 v12 : Value) (wr : World) : Prop := ∃ (j : Nat) (m : Int), j ≤ x.length ∧ v11 = .int .i64 m ∧ v12 = .int .i64 j ∧ Grew w wr ∧ ((m = -1 ∧ ∀ z ∈ x.take j, z ∉ y) ∨ (0 ≤ m ∧ m = meetI x y))
set_option maxHeartbeats 2000000 in
set_option maxRecDepth 100000 in
theorem rpath22_any (ps : List Int) (hl : ps.length ≤ 1000) (A : Option Addr) (k : Nat) (a b c : Int) (w : World) (ra : Row w A (iV ps)) :
    Gives Try.prog 33 #[.slice A ps.length k, .int .i64 a, .int .i64 b, .int .i64 c] w (.bool (pathB ps a b c)) := by
  have HUp := Lib.hid (fun i W (hW : Grew w W) => rup22_any ps hl A k i W (ra.grew hW))
  have HU1 := Lib.hid (HUp.out a)
  have HU2 := Lib.hid (HUp.out b)
  have HU3 := Lib.hid (HUp.out c)
  have hlx := upL_len ps ps.length a
  have hly := upL_len ps ps.length b
  have hlz := upL_len ps ps.length c
  have HXm : Hid (∀ z ∈ upI ps a, 0 ≤ z) := Lib.hid fun z hz => (upL_mem hz).1
  obtain ⟨t, ht⟩ : ∃ t, pathB ps a b c = t := ⟨_, rfl⟩
  have HT : Hid (((decide (c ∈ upI ps a) || decide (c ∈ upI ps b)) && decide (meetI (upI ps a) (upI ps b) ∈ upI ps c)) = t) := Lib.hid ht
  rw [ht]
  clear ht ra HUp
  change (upI ps a).length ≤ ps.length at hlx
  change (upI ps b).length ≤ ps.length at hly
  change (upI ps c).length ≤ ps.length at hlz
  generalize upI ps a = x at *
  generalize upI ps b = y at *
  generalize upI ps c = z at *
  generalize ps.length = n at *
  clear ps
  unfold Gives
  go_enter Try.func33, Try.ntmps33
  go_upto_region 2 with (first | (go_at_call 38; (with_reducible refine (HU1.out _ (Grew.refl _)).mono ?_); rintro e w1 ⟨X1, k1, rfl, hg1, ho1⟩; have HG1 := Lib.hid hg1; have HX1 := Lib.hid (own_rowI ho1); clear hg1 ho1) | (go_at_call 38; (with_reducible refine (HU2.out _ HG1.out).mono ?_); rintro e w2 ⟨X2, k2, rfl, hg2, ho2⟩; have HG2 := Lib.hid (HG1.out.trans hg2); have HX12 := Lib.hid (HX1.out.grew hg2); have HX2 := Lib.hid (own_rowI ho2); clear hg2 ho2))
  have HHy := Lib.hid (fun v W (hW : Grew w2 W) => rhas21_any y v X2 k2 (by omega) W (HX2.out.grew hW))
  have HHx := Lib.hid (fun v W (hW : Grew w2 W) => rhas21_any x v X1 k1 (by omega) W (HX12.out.grew hW))
  clear HU1 HU2 HX1
  go_wp2
  go_loopw [11, 12] (fun v u wx => MeAt w2 x y v u wx) (fun _ u _ => x.length - (intOf u).toNat)
  case atStart => exact ⟨0, -1, Nat.zero_le _, rfl, rfl, Grew.refl _, Or.inl ⟨rfl, by simp⟩⟩
  case round =>
    obtain ⟨j, m, hj, rfl, rfl, hg, hm⟩ := hrel
    have HG := Lib.hid hg
    have HM := Lib.hid hm
    clear hg hm
    by_cases hgo : j < x.length ∧ m < 0
    · obtain ⟨h1, h2⟩ := hgo
      have e1 : decide ((j : Int) < (x.length : Int)) = true := decide_eq_true (by omega)
      have e2 : decide (m < (0 : Int)) = true := decide_eq_true h2
      have hno : ∀ z ∈ x.take j, z ∉ y := by
        rcases HM.out with h | h
        · exact h.2
        · omega
      obtain rfl : m = -1 := by
        rcases HM.out with h | h
        · exact h.1
        · omega
      obtain ⟨b1, o1, rfl, hb, hc⟩ := rowI_at (HX12.out.grew HG.out) h1
      have HHj := Lib.hid (HHy.out x[j])
      have HC := Lib.hid (fun W (hW : Grew wr W) => And.intro (Nat.lt_of_lt_of_le hb hW.size) ((hW.cell (a := ⟨b1, o1 + j, none⟩) hb).trans hc))
      by_cases hin : x[j] ∈ y
      · rw [decide_eq_true hin] at HHj
        have HR : Hid (0 ≤ x[j] ∧ x[j] = meetI x y) := Lib.hid ⟨HXm.out _ (List.getElem_mem h1), (meet_at h1 hno hin).symm⟩
        clear hin hno HM
        generalize x[j] = v at *
        go_upto_region 7 with (go_at_call 49; (with_reducible refine (HHj.out _ HG.out).grows.mono ?_); rintro e w6 ⟨rfl, hg6⟩; have HG6 := Lib.hid (HG.out.trans hg6); have G6 := Lib.hid hg6; clear hg6)
        obtain ⟨hb6, hc6⟩ := HC.out _ G6.out
        clear hb hc
        go_wp2
        exact ⟨⟨j + 1, v, by omega, rfl, by go_num, HG6.out, Or.inr HR.out⟩, by simp only [intOf]; omega⟩
      · rw [decide_eq_false hin] at HHj
        have HR : Hid (∀ z ∈ x.take (j + 1), z ∉ y) := Lib.hid fun z hz => by
          rw [List.take_succ_eq_append_getElem h1] at hz
          rcases List.mem_append.1 hz with hz | hz
          · exact hno z hz
          · rw [List.mem_singleton.1 hz]; exact hin
        clear hin hno HM
        generalize x[j] = v at *
        go_wp2_with (go_at_call 49; (with_reducible refine (HHj.out _ HG.out).grows.mono ?_); rintro e w6 ⟨rfl, hg6⟩; have HG6 := Lib.hid (HG.out.trans hg6); clear hg6)
        exact ⟨⟨j + 1, -1, by omega, rfl, by go_num, HG6.out, Or.inl ⟨rfl, HR.out⟩⟩, by simp only [intOf]; omega⟩
    · have HMe : Hid (m = meetI x y) := Lib.hid (by
        rcases HM.out with h | h
        · have : j = x.length := by omega
          subst this
          rw [List.take_length] at h
          rw [h.1, meet_no h.2]
        · exact h.2)
      have hcond : Hid (((x.length : Int) ≤ (j : Int) ∧ decide ((j : Int) < (x.length : Int)) = false) ∨ ((j : Int) < (x.length : Int) ∧ decide (m < (0 : Int)) = false ∧ 0 ≤ m)) := Lib.hid (by
        by_cases h : j < x.length
        · exact Or.inr ⟨by omega, decide_eq_false (by omega), by omega⟩
        · exact Or.inl ⟨by omega, decide_eq_false (by omega)⟩)
      rw [← HMe.out] at HT
      have HHc1 := Lib.hid (HHx.out c)
      have HHc2 := Lib.hid (HHy.out c)
      obtain ⟨p1, hp1⟩ : ∃ p1, decide (c ∈ x) = p1 := ⟨_, rfl⟩
      obtain ⟨p2, hp2⟩ : ∃ p2, decide (c ∈ y) = p2 := ⟨_, rfl⟩
      obtain ⟨p3, hp3⟩ : ∃ p3, decide (m ∈ z) = p3 := ⟨_, rfl⟩
      rw [hp1] at HHc1 HT
      rw [hp2] at HHc2 HT
      rw [hp3] at HT
      have HHz : Hid (∀ W X k, Row W X (iV z) → Gives Try.prog 49 #[.slice X z.length k, .int .i64 m] W (.bool p3)) := Lib.hid fun W X k hr => by
        have := rhas21_any z m X k (by omega) W hr
        rwa [hp3] at this
      clear hp1 hp2 hp3 HM HMe hgo HHx HHy HXm
      have HGo := Lib.hid (HG2.out.trans HG.out)
      rcases hcond.out with ⟨e0, e1⟩ | ⟨e1, e2, e3⟩
      all_goals
        clear hcond
        cases p1
        all_goals (try cases p2)
        all_goals
          go_wp2_with (first | (go_at_call 38; (with_reducible refine (HU3.out _ HGo.out).mono ?_); rintro e w5 ⟨X5, k5, rfl, hg5, ho5⟩; have HG5 := Lib.hid (HG.out.trans hg5); have HX5 := Lib.hid (own_rowI ho5); clear hg5 ho5) | (go_at_call 49; (with_reducible refine (HHc1.out _ HG5.out).grows.mono ?_); rintro e w6 ⟨rfl, hg6⟩; have HG6 := Lib.hid (HG5.out.trans hg6); have HX6 := Lib.hid (HX5.out.grew hg6); clear hg6) | (go_at_call 49; (with_reducible refine (HHc2.out _ HG6.out).grows.mono ?_); rintro e w7 ⟨rfl, hg7⟩; have HG7 := Lib.hid (HG6.out.trans hg7); have HX7 := Lib.hid (HX6.out.grew hg7); clear hg7) | (go_at_call 49; (with_reducible refine (HHz.out _ _ _ HX6.out).grows.mono ?_); rintro e w8 ⟨rfl, hg8⟩; have HG8 := Lib.hid (HG6.out.trans hg8); clear hg8) | (go_at_call 49; (with_reducible refine (HHz.out _ _ _ HX7.out).grows.mono ?_); rintro e w8 ⟨rfl, hg8⟩; have HG8 := Lib.hid (HG7.out.trans hg8); clear hg8))
          go_ret
          exact ⟨by rw [← HT.out]; rfl, by first | exact HG2.out.trans HG8.out | exact HG2.out.trans HG7.out⟩
end Go.Proofs.Ytpdkacfhnmfmaaa

/- Layer 22: is a list of parents a tree, by the document; the parents that ears tell, by the program. Condition: no more than a thousand nodes. -/
namespace Go.Proofs.Ytpdkacfhnmfmaaa
open Go.RowKit
attribute [local go_sem] more_cell more_frozen more_more more_setCell more_of_drew more_of_drewN lt_more le_more past_cell past_cell2 past_frozen past_frozen2 past_setCell past_setCell2 mid_cell mid_frozen mid_setCell
attribute [local go_sem ↓] Go.wp_at_zero Go.wp_at_succ

theorem roots_in {ps : List Int} {j : Nat} (h : ps.getD j (-1) = -1) : (rootsL22 ps (j + 1)).length = (rootsL22 ps j).length + 1 := by
  unfold rootsL22
  rw [List.range_succ, List.filter_append]
  have : (ps.getD j (-1) == -1) = true := by rw [h]; rfl
  simp only [List.filter_cons, this]
  simp
theorem roots_out {ps : List Int} {j : Nat} (h : ps.getD j (-1) ≠ -1) : (rootsL22 ps (j + 1)).length = (rootsL22 ps j).length := by
  unfold rootsL22
  rw [List.range_succ, List.filter_append]
  have : (ps.getD j (-1) == -1) = false := by simpa using h
  simp only [List.filter_cons, this]
  simp
theorem roots_le (ps : List Int) (j : Nat) : (rootsL22 ps j).length ≤ j := by
  unfold rootsL22
  exact Nat.le_trans (List.length_filter_le _ _) (by simp)
theorem getD_at {ps : List Int} {j : Nat} (h : j < ps.length) : ps.getD j (-1) = ps[j] := by
  rw [List.getD_eq_getElem?_getD, List.getElem?_eq_getElem h]
  rfl
def TrO (w : World) (ps : List Int) (x3 x4 : Value) (wr : World) : Prop := ∃ j : Nat, j ≤ ps.length ∧ x3 = .int .i64 ((rootsL22 ps j).length : Nat) ∧ x4 = .int .i64 j ∧ Grew w wr ∧ ∀ i, i < j → lastUp ps i = -1
set_option maxHeartbeats 2000000 in
set_option maxRecDepth 100000 in
theorem rtree22_any (ps : List Int) (hl : ps.length ≤ 1000) (A : Option Addr) (k : Nat) (w : World) (ra : Row w A (iV ps)) :
    Gives Try.prog 15 #[.slice A ps.length k] w (.bool (treeB ps)) := by
  have RA := Lib.hid ra
  have HUp := Lib.hid (fun i W (hW : Grew w W) => rup22_any ps hl A k i W (ra.grew hW))
  obtain ⟨t, ht⟩ : ∃ t, treeB ps = t := ⟨_, rfl⟩
  rw [ht]
  have HNo : Hid (∀ j, j < ps.length → lastUp ps j ≠ -1 → t = false) := Lib.hid fun j hj h => by
    rw [← ht]
    unfold treeB
    rw [Bool.and_eq_false_iff]
    exact Or.inl (List.all_eq_false.2 ⟨j, List.mem_range.2 hj, by simpa using h⟩)
  have HY : Hid ((∀ i, i < ps.length → lastUp ps i = -1) → t = (ps.length == 0 || (rootsL22 ps ps.length).length == 1)) := Lib.hid fun h => by
    rw [← ht]
    unfold treeB
    rw [List.all_eq_true.2 (fun i hi => by rw [h i (List.mem_range.1 hi)]; rfl), Bool.true_and]
  clear ra ht
  unfold Gives
  go_enter Try.func15, Try.ntmps15
  go_wp2
  go_loopw [3, 4] (fun x3 x4 wr => TrO w ps x3 x4 wr) (fun _ x _ => ps.length - (intOf x).toNat)
  case atStart => exact ⟨0, Nat.zero_le _, rfl, rfl, Grew.refl w, fun i hi => by omega⟩
  case round =>
    obtain ⟨j, hj, rfl, rfl, hg, hk⟩ := hrel
    have HG := Lib.hid hg
    have HK := Lib.hid hk
    have hrl := roots_le ps j
    clear hg hk
    by_cases h1 : j < ps.length
    · obtain ⟨m, hm⟩ : ∃ m, (upI ps j).length = m + 1 := by
        have : upI ps (j : Int) ≠ [] := by
          unfold upI
          obtain ⟨n, hn⟩ : ∃ n, ps.length = n + 1 := ⟨ps.length - 1, by omega⟩
          rw [hn, upL_in h1]
          simp
        exact ⟨(upI ps j).length - 1, by have := List.length_pos_iff.2 this; omega⟩
      have hml : m < (upI ps j).length := by omega
      have hlast : (upI ps j).getLastD 0 = (upI ps j)[m] := by
        rw [List.getLastD_eq_getLast?, List.getLast?_eq_getElem?, hm, Nat.add_sub_cancel, List.getElem?_eq_getElem hml]
        rfl
      have hzin := upL_mem (List.getElem_mem hml)
      obtain ⟨z, hz⟩ : ∃ z : Nat, (upI ps j)[m] = (z : Int) := ⟨((upI ps j)[m]).toNat, by omega⟩
      have hzl : z < ps.length := by rw [hz] at hzin; omega
      have hlu : lastUp ps j = ps[z] := by
        unfold lastUp parI
        rw [hlast, hz, Int.toNat_natCast, getD_at hzl]
      have hmle : m + 1 ≤ ps.length := by rw [← hm]; exact upL_len _ _ _
      have HUpj : Hid (∀ W, Grew w W → Calls Try.prog 38 #[.slice A ps.length k, .int .i64 (j : Int)] W fun e w' => ∃ X kx bx ox, e = .returned (.slice X (m + 1) kx) ∧ Grew W w' ∧ X = some ⟨bx, ox, none⟩ ∧ bx < w'.heap.size ∧ w'.cell? ⟨bx, ox + m, none⟩ = some (.int .i64 (z : Int))) := Lib.hid fun W hW => (HUp.out j W hW).mono fun e w' ⟨X, kx, he, hg, ho⟩ => by
        obtain ⟨bx, ox, hX, hb, hc⟩ := rowI_at (own_rowI ho) hml
        rw [hz] at hc
        exact ⟨X, kx, bx, ox, by rw [← hm]; exact he, hg, hX, hb, hc⟩
      obtain ⟨b, o, rfl, hb, hc⟩ := rowI_at (RA.out.grew HG.out) h1
      have HCj : Hid (∀ W, Grew wr W → b < W.heap.size ∧ W.cell? ⟨b, o + j, none⟩ = some (.int .i64 ps[j])) := Lib.hid fun W hW => ⟨Nat.lt_of_lt_of_le hb hW.size, (hW.cell (a := ⟨b, o + j, none⟩) hb).trans hc⟩
      have HCz : Hid (∀ W, Grew wr W → W.cell? ⟨b, o + z, none⟩ = some (.int .i64 ps[z])) := Lib.hid fun W hW => by
        obtain ⟨b2, o2, hA, _, h2⟩ := rowI_at (RA.out.grew (HG.out.trans hW)) hzl
        injection hA with hA
        injection hA with e1 e2 _
        subst e1 e2
        exact h2
      have HNx : Hid (ps[z] = -1 → ∀ i, i < j + 1 → lastUp ps i = -1) := Lib.hid fun e i hi => by
        by_cases hij : i = j
        · subst hij; rw [hlu]; exact e
        · exact HK.out i (by omega)
      have HF : Hid (ps[z] ≠ -1 → t = false) := Lib.hid fun e => HNo.out j h1 (by rw [hlu]; exact e)
      have HRi : Hid (ps[j] = -1 → (rootsL22 ps (j + 1)).length = (rootsL22 ps j).length + 1) := Lib.hid fun e => roots_in (by rw [getD_at h1]; exact e)
      have HRo : Hid (ps[j] ≠ -1 → (rootsL22 ps (j + 1)).length = (rootsL22 ps j).length) := Lib.hid fun e => roots_out (by rw [getD_at h1]; exact e)
      clear hlast hzin hlu hml hc hb HUp HNo HY HK hz hm
      generalize hv : ps[z] = v at *
      generalize hy : ps[j] = y at *
      clear hv hy
      generalize (rootsL22 ps j).length = r at *
      go_upto_region 6 with (go_at_call 38; (with_reducible refine (HUpj.out _ HG.out).mono ?_); rintro e w2 ⟨X, kx, bx, ox, rfl, hg2, rfl, hbx, hcx⟩; have HG2 := Lib.hid (HG.out.trans hg2); have G2 := Lib.hid hg2; clear hg2)
      obtain ⟨hb, hcj⟩ := HCj.out _ G2.out
      have hcz := HCz.out _ G2.out
      by_cases hv : v = -1
      · subst hv
        have HN1 := Lib.hid (HNx.out rfl)
        have ev : ((-1 : Int) != (-1 : Int)) = false := by decide
        clear HNx HF
        by_cases hy : y = -1
        · subst hy
          have HR := Lib.hid (HRi.out rfl)
          have ey : ((-1 : Int) == (-1 : Int)) = true := by decide
          clear HRi HRo
          go_wp2
          exact ⟨⟨j + 1, by omega, by rw [HR.out]; go_num, by go_num, HG2.out, HN1.out⟩, by simp only [intOf]; omega⟩
        · have HR := Lib.hid (HRo.out hy)
          have ey : (y == (-1 : Int)) = false := by simpa using hy
          clear HRi HRo hy
          go_wp2
          exact ⟨⟨j + 1, by omega, by rw [HR.out], by go_num, HG2.out, HN1.out⟩, by simp only [intOf]; omega⟩
      · obtain rfl := HF.out hv
        have ev : (v != (-1 : Int)) = true := by simpa using hv
        clear HNx HF HRi HRo hv
        go_wp2
        go_ret
        exact ⟨rfl, HG2.out⟩
    · obtain rfl : j = ps.length := by omega
      have HT := Lib.hid (HY.out HK.out)
      clear HNo HY HK HUp
      generalize (rootsL22 ps ps.length).length = r at *
      by_cases h0 : ps.length = 0
      · have e0 : ((ps.length : Int) == 0) = true := by simp [h0]
        obtain rfl : t = true := by rw [HT.out, h0]; rfl
        clear HT
        go_wp2
        go_ret
        exact ⟨rfl, HG.out⟩
      · have e0 : ((ps.length : Int) == 0) = false := by rw [beq_eq_false_iff_ne]; omega
        have e1 : ((r : Int) == 1) = t := by
          rw [HT.out]
          have : (ps.length == 0) = false := by simpa using h0
          rw [this, Bool.false_or, Bool.eq_iff_iff, beq_iff_eq, beq_iff_eq]
          omega
        clear HT h0
        go_wp2
        go_ret
        exact ⟨rfl, HG.out⟩
end Go.Proofs.Ytpdkacfhnmfmaaa

/- Layer 22: is a list of parents a join tree, by the document; the parents that ears tell, by the program; the law of join trees. Condition: numbers that an int holds. -/
namespace Go.Proofs.Ytpdkacfhnmfmaaa
open Go.RowKit
attribute [local go_sem] more_cell more_frozen more_more more_setCell more_of_drew more_of_drewN lt_more le_more past_cell past_cell2 past_frozen past_frozen2 past_setCell past_setCell2 mid_cell mid_frozen mid_setCell
attribute [local go_sem ↓] Go.wp_at_zero Go.wp_at_succ

def okJ (h : List (List Int)) (ps : List Int) (a b c : Nat) : Prop := pathB ps a b c = true → withinI (sharedI (edgeAt h a) (edgeAt h b)) (edgeAt h c) = true
def JoinsP (h : List (List Int)) (ps : List Int) : Prop := ps.length = h.length ∧ treeB ps = true ∧ ∀ a b c : Nat, a < h.length → b < a → c < h.length → okJ h ps a b c
def JoA (w : World) (h : List (List Int)) (ps : List Int) (x : Value) (wr : World) : Prop := ∃ a : Nat, a ≤ h.length ∧ x = .int .i64 a ∧ Grew w wr ∧ ∀ a' b c : Nat, a' < a → b < a' → c < h.length → okJ h ps a' b c
def JoB (w : World) (h : List (List Int)) (ps : List Int) (a : Nat) (x : Value) (wr : World) : Prop := ∃ b : Nat, b ≤ a ∧ x = .int .i64 b ∧ Grew w wr ∧ ∀ b' c : Nat, b' < b → c < h.length → okJ h ps a b' c
def JoC (w : World) (h : List (List Int)) (ps : List Int) (a b : Nat) (x : Value) (wr : World) : Prop := ∃ c : Nat, c ≤ h.length ∧ x = .int .i64 c ∧ Grew w wr ∧ ∀ c' : Nat, c' < c → okJ h ps a b c'
set_option maxHeartbeats 4000000 in
set_option maxRecDepth 100000 in
theorem rjoins22_any (h : List (List Int)) (ps : List Int) (hn1 : h.length ≤ 1000) (hp1 : ps.length ≤ 1000) (hel : ∀ e ∈ h, e.length ≤ 30) (A B : Option Addr) (k kb : Nat) (t : Bool) (ht : t = true ↔ JoinsP h ps) (w : World) (ra : GridI (PRow w) A h) (rb : Row w B (iV ps)) :
    Gives Try.prog 12 #[.slice A h.length k, .slice B ps.length kb] w (.bool t) := by
  have HTree := Lib.hid (fun W (hW : Grew w W) => rtree22_any ps hp1 B kb W (rb.grew hW))
  have HPath := Lib.hid (fun (a b c : Int) W (hW : Grew w W) => rpath22_any ps hp1 B kb a b c W (rb.grew hW))
  have HT := Lib.hid ht
  have RA := Lib.hid ra
  have HEl := Lib.hid hel
  clear ra rb ht hel
  unfold Gives
  by_cases hlen : ps.length = h.length
  rotate_left
  · have e0 : ((ps.length : Int) != (h.length : Int)) = true := by rw [bne_iff_ne]; omega
    obtain rfl : t = false := by
      cases t
      · rfl
      · exact absurd (HT.out.1 rfl).1 hlen
    clear HT hlen
    go_enter Try.func12, Try.ntmps12
    go_wp2
    go_ret
    exact ⟨rfl, by (show Grew _ _; repeat (first | exact Grew.refl _ | refine Grew.alloc ?_ _ | refine Grew.drew ?_ | refine Grew.more ?_ _))⟩
  have e0 : ((ps.length : Int) != (h.length : Int)) = false := by rw [bne_eq_false_iff_eq]; omega
  by_cases htr : treeB ps = true
  rotate_left
  · have htr0 : treeB ps = false := by simpa using htr
    rw [htr0] at HTree
    obtain rfl : t = false := by
      cases t
      · rfl
      · exact absurd (HT.out.1 rfl).2.1 htr
    clear HT htr htr0 hlen
    go_enter Try.func12, Try.ntmps12
    go_wp2_with (go_at_call 15; (with_reducible refine (HTree.out _ (Grew.refl _)).grows.mono ?_); rintro e w6 ⟨rfl, hg6⟩; have HG6 := Lib.hid hg6; clear hg6)
    go_ret
    exact ⟨rfl, HG6.out⟩
  rw [htr] at HTree
  have HNo : Hid (∀ a b c : Nat, a < h.length → b < a → c < h.length → ¬ okJ h ps a b c → t = false) := Lib.hid fun a b c ha hb hc hno => by
    cases t
    · rfl
    · exact absurd ((HT.out.1 rfl).2.2 a b c ha hb hc) hno
  have HYes : Hid ((∀ a b c : Nat, a < h.length → b < a → c < h.length → okJ h ps a b c) → t = true) := Lib.hid fun hall => HT.out.2 ⟨hlen, htr, hall⟩
  clear HT htr hlen
  go_enter Try.func12, Try.ntmps12
  go_wp2_with (go_at_call 15; (with_reducible refine (HTree.out _ (Grew.refl _)).grows.mono ?_); rintro e w6 ⟨rfl, hg6⟩; have HG6 := Lib.hid hg6; clear hg6)
  clear e0
  go_loopw [5] (fun x wx => JoA w h ps x wx) (fun x _ => h.length - (intOf x).toNat)
  case atStart => exact ⟨0, Nat.zero_le _, rfl, HG6.out, fun a' _ _ h => by omega⟩
  case round =>
    obtain ⟨a, ha, rfl, hg, hk⟩ := hrel
    have HG := Lib.hid hg
    have HK := Lib.hid hk
    clear hg hk HG6
    by_cases h1 : a < h.length
    · go_wp2
      go_loopw [6] (fun x wx => JoB w h ps a x wx) (fun x _ => a - (intOf x).toNat)
      case atStart => exact ⟨0, Nat.zero_le _, rfl, HG.out, fun b' _ h => by omega⟩
      case round =>
        obtain ⟨b, hb, rfl, hg, hk2⟩ := hrel
        have HG := Lib.hid hg
        have HK2 := Lib.hid hk2
        clear hg hk2
        by_cases h2 : b < a
        · go_wp2
          go_loopw [7] (fun x wx => JoC w h ps a b x wx) (fun x _ => h.length - (intOf x).toNat)
          case atStart => exact ⟨0, Nat.zero_le _, rfl, HG.out, fun c' h => by omega⟩
          case round =>
            obtain ⟨c, hc, rfl, hg, hk3⟩ := hrel
            have HG := Lib.hid hg
            have HK3 := Lib.hid hk3
            clear hg hk3
            by_cases h3 : c < h.length
            · have HNx : Hid (okJ h ps a b c → ∀ c', c' < c + 1 → okJ h ps a b c') := Lib.hid fun e c' hc' => by
                by_cases ec : c' = c
                · subst ec; exact e
                · exact HK3.out c' (by omega)
              have HF : Hid (¬ okJ h ps a b c → t = false) := Lib.hid fun e => HNo.out a b c h1 h2 h3 e
              have HPc := Lib.hid (HPath.out a b c)
              obtain ⟨q, hq⟩ : ∃ q, pathB ps a b c = q := ⟨_, rfl⟩
              rw [hq] at HPc
              have HQ := Lib.hid hq
              clear HK3 hq
              cases q
              · have HN1 := Lib.hid (HNx.out (fun e => by rw [HQ.out] at e; cases e))
                clear HNx HF HQ
                go_upto_region 12 with fail
                refine wp_region_S (fun W => Grew wr W) (by kernel_rfl) ?_
                refine held_take 0 (v := ?_) rfl (by kernel_rfl) (by kernel_rfl) (by kernel_rfl) (fun _ _ _ h => h) (by rfl) ?_ (Grew.refl _).drew ?_
                rotate_left
                · (intro W hW; go_simp; with_reducible rfl)
                refine held_take 1 (v := ?_) rfl (by kernel_rfl) (by kernel_rfl) (by kernel_rfl) (fun _ _ _ h => h) (by rfl) ?_ (Grew.refl _).drew ?_
                rotate_left
                · (intro W hW; go_simp; with_reducible rfl)
                refine held_take 2 (v := ?_) rfl (by kernel_rfl) (by kernel_rfl) (by kernel_rfl) (fun _ _ _ h => h) (by rfl) ?_ (Grew.refl _).drew ?_
                rotate_left
                · (intro W hW; go_simp; with_reducible rfl)
                refine held_take 3 (v := ?_) rfl (by kernel_rfl) (by kernel_rfl) (by kernel_rfl) (fun _ _ _ h => h) (by rfl) ?_ (Grew.refl _).drew ?_
                rotate_left
                · (intro W hW; go_simp; with_reducible rfl)
                refine held_norm (a' := ?_) ?_ ?_
                rotate_left
                · (go_simp; with_reducible rfl)
                refine held_call 4 (by kernel_rfl) rfl (by rfl) (fun K hK => ?_)
                go_simp
                go_wp2_with (go_at_call 33; (with_reducible refine (HPc.out _ (HG.out.drew)).grows.mono ?_); rintro e w6 ⟨rfl, hg6⟩; have G6 := Lib.hid ((Grew.refl wr).drew.trans hg6); clear hg6)
                refine hK.out _ _ G6.out ?_
                clear hK K
                refine held_take 5 (v := ?_) rfl (by kernel_rfl) (by kernel_rfl) (by kernel_rfl) (fun _ _ _ h => h) (by rfl) ?_ G6.out ?_
                rotate_left
                · (intro W hW; go_simp; with_reducible rfl)
                refine held_norm (a' := ?_) ?_ ?_
                rotate_left
                · (go_simp; with_reducible rfl)
                refine held_skip 6 rfl (by kernel_rfl) (by kernel_rfl) (by kernel_rfl) (fun _ _ _ h => h) (by rfl) G6.out ?_
                refine held_norm (a' := ?_) ?_ ?_
                rotate_left
                · (go_simp; with_reducible rfl)
                refine held_skip 7 rfl (by kernel_rfl) (by kernel_rfl) (by kernel_rfl) (fun _ _ _ h => h) (by rfl) G6.out ?_
                refine held_norm (a' := ?_) ?_ ?_
                rotate_left
                · (go_simp; with_reducible rfl)
                refine held_skip 8 rfl (by kernel_rfl) (by kernel_rfl) (by kernel_rfl) (fun _ _ _ h => h) (by rfl) G6.out ?_
                refine held_norm (a' := ?_) ?_ ?_
                rotate_left
                · (go_simp; with_reducible rfl)
                refine held_skip 9 rfl (by kernel_rfl) (by kernel_rfl) (by kernel_rfl) (fun _ _ _ h => h) (by rfl) G6.out ?_
                refine held_norm (a' := ?_) ?_ ?_
                rotate_left
                · (go_simp; with_reducible rfl)
                refine held_skip 10 rfl (by kernel_rfl) (by kernel_rfl) (by kernel_rfl) (fun _ _ _ h => h) (by rfl) G6.out ?_
                refine held_norm (a' := ?_) ?_ ?_
                rotate_left
                · (go_simp; with_reducible rfl)
                refine held_skip 11 rfl (by kernel_rfl) (by kernel_rfl) (by kernel_rfl) (fun _ _ _ h => h) (by rfl) G6.out ?_
                refine held_norm (a' := ?_) ?_ ?_
                rotate_left
                · (go_simp; with_reducible rfl)
                refine held_skip 12 rfl (by kernel_rfl) (by kernel_rfl) (by kernel_rfl) (fun _ _ _ h => h) (by rfl) G6.out ?_
                refine held_norm (a' := ?_) ?_ ?_
                rotate_left
                · (go_simp; with_reducible rfl)
                refine held_skip 13 rfl (by kernel_rfl) (by kernel_rfl) (by kernel_rfl) (fun _ _ _ h => h) (by rfl) G6.out ?_
                refine held_norm (a' := ?_) ?_ ?_
                rotate_left
                · (go_simp; with_reducible rfl)
                refine held_skip 14 rfl (by kernel_rfl) (by kernel_rfl) (by kernel_rfl) (fun _ _ _ h => h) (by rfl) G6.out ?_
                refine held_norm (a' := ?_) ?_ ?_
                rotate_left
                · (go_simp; with_reducible rfl)
                refine held_skip 15 rfl (by kernel_rfl) (by kernel_rfl) (by kernel_rfl) (fun _ _ _ h => h) (by rfl) G6.out ?_
                refine held_norm (a' := ?_) ?_ ?_
                rotate_left
                · (go_simp; with_reducible rfl)
                refine held_skip 16 rfl (by kernel_rfl) (by kernel_rfl) (by kernel_rfl) (fun _ _ _ h => h) (by rfl) G6.out ?_
                refine held_norm (a' := ?_) ?_ ?_
                rotate_left
                · (go_simp; with_reducible rfl)
                refine held_skip 17 rfl (by kernel_rfl) (by kernel_rfl) (by kernel_rfl) (fun _ _ _ h => h) (by rfl) G6.out ?_
                refine held_norm (a' := ?_) ?_ ?_
                rotate_left
                · (go_simp; with_reducible rfl)
                refine held_skip 18 rfl (by kernel_rfl) (by kernel_rfl) (by kernel_rfl) (fun _ _ _ h => h) (by rfl) G6.out ?_
                refine held_norm (a' := ?_) ?_ ?_
                rotate_left
                · (go_simp; with_reducible rfl)
                refine held_skip 19 rfl (by kernel_rfl) (by kernel_rfl) (by kernel_rfl) (fun _ _ _ h => h) (by rfl) G6.out ?_
                refine held_norm (a' := ?_) ?_ ?_
                rotate_left
                · (go_simp; with_reducible rfl)
                refine held_skip 20 rfl (by kernel_rfl) (by kernel_rfl) (by kernel_rfl) (fun _ _ _ h => h) (by rfl) G6.out ?_
                refine held_norm (a' := ?_) ?_ ?_
                rotate_left
                · (go_simp; with_reducible rfl)
                refine held_take 21 (v := ?_) rfl (by kernel_rfl) (by kernel_rfl) (by kernel_rfl) (fun _ _ _ h => h) (by rfl) ?_ G6.out ?_
                rotate_left
                · (intro W hW; go_simp; with_reducible rfl)
                refine held_norm (a' := ?_) ?_ ?_
                rotate_left
                · (go_simp; with_reducible rfl)
                refine held_done (by kernel_rfl) ?_
                go_wp2
                exact ⟨⟨c + 1, by omega, by go_num, HG.out.trans G6.out, HN1.out⟩, by simp only [intOf]; omega⟩
              · have hbl : b < h.length := by omega
                obtain ⟨ba, oa, DA, da, hA1, hba, ca, rA⟩ := gridI_at RA.out h1
                obtain ⟨bb, ob, DB, db, hA2, hbb, cb, rB⟩ := gridI_at RA.out hbl
                obtain ⟨bc, oc, DC, dc, hA3, hbc, cc, rC⟩ := gridI_at RA.out h3
                subst hA1
                injection hA2 with hA2
                injection hA2 with f1 f2 _
                subst f1 f2
                injection hA3 with hA3
                injection hA3 with f3 f4 _
                subst f3 f4
                have la := HEl.out _ (List.getElem_mem h1)
                have lb := HEl.out _ (List.getElem_mem hbl)
                have lc := HEl.out _ (List.getElem_mem h3)
                have HSh := Lib.hid (fun W (hW : Grew w W) => rshared21_any h[a] h[b] DA DB da db (by omega) (by omega) W (rA.grew hW) (rB.grew hW))
                have hsl : (sharedI h[a] h[b]).length ≤ 30 := Nat.le_trans (setI_len _) (Nat.le_trans (List.length_filter_le _ _) la)
                have HWi := Lib.hid (fun W A6 k6 (hW : Grew w W) (hR : Row W A6 (iV (sharedI h[a] h[b]))) => rwithin21_any (sharedI h[a] h[b]) h[c] A6 DC k6 dc (by omega) (by omega) W hR (rC.grew hW))
                have HV : Hid (withinI (sharedI (edgeAt h a) (edgeAt h b)) (edgeAt h c) = withinI (sharedI h[a] h[b]) h[c]) := Lib.hid (by rw [edgeAt_eq h1, edgeAt_eq hbl, edgeAt_eq h3])
                have HCells := Lib.hid (fun W (hW : Grew w W) => And.intro (Nat.lt_of_lt_of_le hba hW.size) (And.intro ((hW.cell (a := ⟨ba, oa + a, none⟩) hba).trans ca) (And.intro ((hW.cell (a := ⟨ba, oa + b, none⟩) hbb).trans cb) ((hW.cell (a := ⟨ba, oa + c, none⟩) hbc).trans cc))))
                obtain ⟨v, hv⟩ : ∃ v, withinI (sharedI h[a] h[b]) h[c] = v := ⟨_, rfl⟩
                rw [hv] at HWi HV
                clear hv rA rB rC ca cb cc
                generalize sharedI h[a] h[b] = sh at *
                generalize h[a] = ea at *
                generalize h[b] = eb at *
                generalize h[c] = ec at *
                go_upto_region 12 with fail
                refine wp_region_S (fun W => Grew wr W) (by kernel_rfl) ?_
                refine held_take 0 (v := ?_) rfl (by kernel_rfl) (by kernel_rfl) (by kernel_rfl) (fun _ _ _ h => h) (by rfl) ?_ (Grew.refl _).drew ?_
                rotate_left
                · (intro W hW; go_simp; with_reducible rfl)
                refine held_take 1 (v := ?_) rfl (by kernel_rfl) (by kernel_rfl) (by kernel_rfl) (fun _ _ _ h => h) (by rfl) ?_ (Grew.refl _).drew ?_
                rotate_left
                · (intro W hW; go_simp; with_reducible rfl)
                refine held_take 2 (v := ?_) rfl (by kernel_rfl) (by kernel_rfl) (by kernel_rfl) (fun _ _ _ h => h) (by rfl) ?_ (Grew.refl _).drew ?_
                rotate_left
                · (intro W hW; go_simp; with_reducible rfl)
                refine held_take 3 (v := ?_) rfl (by kernel_rfl) (by kernel_rfl) (by kernel_rfl) (fun _ _ _ h => h) (by rfl) ?_ (Grew.refl _).drew ?_
                rotate_left
                · (intro W hW; go_simp; with_reducible rfl)
                refine held_norm (a' := ?_) ?_ ?_
                rotate_left
                · (go_simp; with_reducible rfl)
                refine held_call 4 (by kernel_rfl) rfl (by rfl) (fun K hK => ?_)
                go_simp
                go_wp2_with (go_at_call 33; (with_reducible refine (HPc.out _ (HG.out.drew)).grows.mono ?_); rintro e w6 ⟨rfl, hg6⟩; have G6 := Lib.hid ((Grew.refl wr).drew.trans hg6); clear hg6)
                refine hK.out _ _ G6.out ?_
                clear hK K
                refine held_take 5 (v := ?_) rfl (by kernel_rfl) (by kernel_rfl) (by kernel_rfl) (fun _ _ _ h => h) (by rfl) ?_ G6.out ?_
                rotate_left
                · (intro W hW; go_simp; with_reducible rfl)
                refine held_norm (a' := ?_) ?_ ?_
                rotate_left
                · (go_simp; with_reducible rfl)
                refine held_take 6 (v := ?_) rfl (by kernel_rfl) (by kernel_rfl) (by kernel_rfl) (fun _ _ _ h => h) (by rfl) ?_ G6.out ?_
                rotate_left
                · (intro W hW; obtain ⟨g0, g1, g2, g3⟩ := HCells.out W (HG.out.trans hW); go_simp; with_reducible rfl)
                refine held_take 7 (v := ?_) rfl (by kernel_rfl) (by kernel_rfl) (by kernel_rfl) (fun _ _ _ h => h) (by rfl) ?_ G6.out ?_
                rotate_left
                · (intro W hW; obtain ⟨g0, g1, g2, g3⟩ := HCells.out W (HG.out.trans hW); go_simp; with_reducible rfl)
                refine held_take 8 (v := ?_) rfl (by kernel_rfl) (by kernel_rfl) (by kernel_rfl) (fun _ _ _ h => h) (by rfl) ?_ G6.out ?_
                rotate_left
                · (intro W hW; obtain ⟨g0, g1, g2, g3⟩ := HCells.out W (HG.out.trans hW); go_simp; with_reducible rfl)
                refine held_take 9 (v := ?_) rfl (by kernel_rfl) (by kernel_rfl) (by kernel_rfl) (fun _ _ _ h => h) (by rfl) ?_ G6.out ?_
                rotate_left
                · (intro W hW; obtain ⟨g0, g1, g2, g3⟩ := HCells.out W (HG.out.trans hW); go_simp; with_reducible rfl)
                refine held_norm (a' := ?_) ?_ ?_
                rotate_left
                · (go_simp; with_reducible rfl)
                refine held_take 10 (v := ?_) rfl (by kernel_rfl) (by kernel_rfl) (by kernel_rfl) (fun _ _ _ h => h) (by rfl) ?_ G6.out ?_
                rotate_left
                · (intro W hW; obtain ⟨g0, g1, g2, g3⟩ := HCells.out W (HG.out.trans hW); go_simp; with_reducible rfl)
                refine held_take 11 (v := ?_) rfl (by kernel_rfl) (by kernel_rfl) (by kernel_rfl) (fun _ _ _ h => h) (by rfl) ?_ G6.out ?_
                rotate_left
                · (intro W hW; obtain ⟨g0, g1, g2, g3⟩ := HCells.out W (HG.out.trans hW); go_simp; with_reducible rfl)
                refine held_take 12 (v := ?_) rfl (by kernel_rfl) (by kernel_rfl) (by kernel_rfl) (fun _ _ _ h => h) (by rfl) ?_ G6.out ?_
                rotate_left
                · (intro W hW; obtain ⟨g0, g1, g2, g3⟩ := HCells.out W (HG.out.trans hW); go_simp; with_reducible rfl)
                refine held_take 13 (v := ?_) rfl (by kernel_rfl) (by kernel_rfl) (by kernel_rfl) (fun _ _ _ h => h) (by rfl) ?_ G6.out ?_
                rotate_left
                · (intro W hW; obtain ⟨g0, g1, g2, g3⟩ := HCells.out W (HG.out.trans hW); go_simp; with_reducible rfl)
                refine held_norm (a' := ?_) ?_ ?_
                rotate_left
                · (go_simp; with_reducible rfl)
                refine held_take 15 (v := ?_) rfl (by kernel_rfl) (by kernel_rfl) (by kernel_rfl) (fun _ _ _ h => h) (by rfl) ?_ G6.out ?_
                rotate_left
                · (intro W hW; obtain ⟨g0, g1, g2, g3⟩ := HCells.out W (HG.out.trans hW); go_simp; with_reducible rfl)
                refine held_take 16 (v := ?_) rfl (by kernel_rfl) (by kernel_rfl) (by kernel_rfl) (fun _ _ _ h => h) (by rfl) ?_ G6.out ?_
                rotate_left
                · (intro W hW; obtain ⟨g0, g1, g2, g3⟩ := HCells.out W (HG.out.trans hW); go_simp; with_reducible rfl)
                refine held_take 17 (v := ?_) rfl (by kernel_rfl) (by kernel_rfl) (by kernel_rfl) (fun _ _ _ h => h) (by rfl) ?_ G6.out ?_
                rotate_left
                · (intro W hW; obtain ⟨g0, g1, g2, g3⟩ := HCells.out W (HG.out.trans hW); go_simp; with_reducible rfl)
                refine held_take 18 (v := ?_) rfl (by kernel_rfl) (by kernel_rfl) (by kernel_rfl) (fun _ _ _ h => h) (by rfl) ?_ G6.out ?_
                rotate_left
                · (intro W hW; obtain ⟨g0, g1, g2, g3⟩ := HCells.out W (HG.out.trans hW); go_simp; with_reducible rfl)
                refine held_norm (a' := ?_) ?_ ?_
                rotate_left
                · (go_simp; with_reducible rfl)
                refine held_call 14 (by kernel_rfl) rfl (by rfl) (fun K hK => ?_)
                go_simp
                go_wp2_with (go_at_call 35; (with_reducible refine (HSh.out _ (HG.out.trans G6.out)).mono ?_); rintro e w7 ⟨A7, k7, rfl, _, hg7, hr7⟩; have G7 := Lib.hid (G6.out.trans hg7); have HR7 := Lib.hid hr7.plain; clear hg7 hr7)
                refine hK.out _ _ G7.out ?_
                clear hK K
                refine held_call 19 (by kernel_rfl) rfl (by rfl) (fun K hK => ?_)
                go_simp
                go_wp2_with (go_at_call 34; (with_reducible refine (HWi.out _ _ _ (HG.out.trans G7.out) HR7.out).grows.mono ?_); rintro e w8 ⟨rfl, hg8⟩; have G8 := Lib.hid (G7.out.trans hg8); clear hg8)
                refine hK.out _ _ G8.out ?_
                clear hK K
                refine held_take 20 (v := ?_) rfl (by kernel_rfl) (by kernel_rfl) (by kernel_rfl) (fun _ _ _ h => h) (by rfl) ?_ G8.out ?_
                rotate_left
                · (intro W hW; go_simp; with_reducible rfl)
                refine held_take 21 (v := ?_) rfl (by kernel_rfl) (by kernel_rfl) (by kernel_rfl) (fun _ _ _ h => h) (by rfl) ?_ G8.out ?_
                rotate_left
                · (intro W hW; go_simp; with_reducible rfl)
                refine held_norm (a' := ?_) ?_ ?_
                rotate_left
                · (go_simp; with_reducible rfl)
                refine held_done (by kernel_rfl) ?_
                cases v
                · obtain rfl := HF.out (fun e => by have := e HQ.out; rw [HV.out] at this; cases this)
                  clear HNx HF HQ HV
                  go_wp2
                  go_ret
                  exact ⟨rfl, HG.out.trans G8.out⟩
                · have HN1 := Lib.hid (HNx.out (fun _ => HV.out))
                  clear HNx HF HQ HV
                  go_wp2
                  exact ⟨⟨c + 1, by omega, by go_num, HG.out.trans G8.out, HN1.out⟩, by simp only [intOf]; omega⟩
            · obtain rfl : c = h.length := by omega
              have HN2 : Hid (∀ b' c : Nat, b' < b + 1 → c < h.length → okJ h ps a b' c) := Lib.hid fun b' c hb' hc' => by
                by_cases eb : b' = b
                · subst eb; exact HK3.out c hc'
                · exact HK2.out b' c (by omega) hc'
              clear HK3
              go_wp2
              exact ⟨⟨b + 1, by omega, by go_num, HG.out, HN2.out⟩, by simp only [intOf]; omega⟩
        · obtain rfl : b = a := by omega
          have HN2 : Hid (∀ a' b' c : Nat, a' < b + 1 → b' < a' → c < h.length → okJ h ps a' b' c) := Lib.hid fun a' b' c ha' hb' hc' => by
            by_cases ea : a' = b
            · subst ea; exact HK2.out b' c hb' hc'
            · exact HK.out a' b' c (by omega) hb' hc'
          clear HK2
          go_wp2
          exact ⟨⟨b + 1, by omega, by go_num, HG.out, HN2.out⟩, by simp only [intOf]; omega⟩
    · obtain rfl : a = h.length := by omega
      obtain rfl := HYes.out HK.out
      clear HK HNo HYes
      go_wp2
      go_ret
      exact ⟨rfl, HG.out⟩
end Go.Proofs.Ytpdkacfhnmfmaaa

namespace Go.Proofs.Ytpdkacfhnmfmaaa
open Go.RowKit
attribute [local go_sem] more_cell more_frozen more_more more_setCell more_of_drew more_of_drewN lt_more le_more past_cell past_cell2 past_frozen past_frozen2 past_setCell past_setCell2 mid_cell mid_frozen mid_setCell
attribute [local go_sem ↓] Go.wp_at_zero Go.wp_at_succ

theorem ears_in (h : List (List Int)) (k : Nat) : ∀ e ∈ (earsS h k).1, e.1 < h.length ∧ e.2 < h.length := by
  induction k with
  | zero => intro e he; cases he
  | succ k ih =>
    cases hs : stepE h (earsS h k).2 with
    | none => rw [earsS_none hs]; exact ih
    | some q =>
      obtain ⟨i, p⟩ := q
      rw [earsS_some hs]
      intro e he
      rcases List.mem_append.1 he with he | he
      · exact ih e he
      · rw [List.mem_singleton.1 he]
        obtain ⟨h1, h2⟩ := stepE_inv hs
        exact ⟨h1, (earP_inv h2).2.2.1⟩
theorem iV_set (l : List Int) (i : Nat) (v : Int) : (iV l).toArray.setIfInBounds i (.int .i64 v) = (iV (l.set i v)).toArray := by
  unfold iV
  apply Array.ext'
  rw [Array.toList_setIfInBounds, List.map_set]
def PaA (w : World) (pb n : Nat) (x : Value) (wr : World) : Prop := ∃ (j : Nat) (l : List Int), j ≤ n ∧ x = .int .i64 j ∧ Grew w wr ∧ l.length = n ∧ Blok wr pb 3 (iV l).toArray ∧ ∀ i, i < j → l[i]? = some (-1)
def PaB (w : World) (pb n : Nat) (E : List (Nat × Nat)) (x : Value) (wr : World) : Prop := ∃ j : Nat, j ≤ E.length ∧ x = .int .i64 j ∧ Grew w wr ∧ Blok wr pb 3 (iV (parE n (E.take j))).toArray
def ParF (w : World) (n : Nat) (l : List Int) (e : Ending) (w' : World) : Prop := ∃ B c, e = .returned (.tuple #[.slice B n c, .bool true]) ∧ Grew w w' ∧ Row w' B (iV l)
theorem parents22_no (h : List (List Int)) (n : Nat) (hn : h.length = n) (hn1 : n ≤ 1000) (hw : wfG h) (hel : ∀ e ∈ h, e.length ≤ 30) (ha : 1 < n - (earsS h n).1.length) (A : Option Addr) (k : Nat) (w : World) (ra : GridI (PRow w) A h) :
    Gives Try.prog 9 #[.slice A n k] w (.tuple #[.slice none 0 0, .bool false]) := by
  have HE := Lib.hid (ears22_any h n hn hn1 hw hel A k w ra)
  have hle : (earsS h n).1.length ≤ n := by rw [← hn]; exact earsS_le h h.length
  clear ra hel hw hn
  generalize (earsS h n).1 = E at *
  have hsub : IntKind.i64.wrap ((n : Int) - (E.length : Int)) = ((n - E.length : Nat) : Int) := by
    rw [show (n : Int) - (E.length : Int) = ((n - E.length : Nat) : Int) by omega]
    exact IntWalk.i64_in _ (by omega)
  have hgt : (1 : Int) < ((n - E.length : Nat) : Int) := by omega
  unfold Gives
  go_enter Try.func9, Try.ntmps9
  go_wp2_with (go_at_call 31; (with_reducible refine HE.out.mono ?_); rintro e w1 ⟨X1, k1, rfl, hg1, _⟩; have HG1 := Lib.hid hg1; clear hg1)
  go_ret2
  exact ⟨rfl, HG1.out⟩
set_option maxHeartbeats 2000000 in
set_option maxRecDepth 100000 in
theorem parents22_yes (h : List (List Int)) (n : Nat) (hn : h.length = n) (hn1 : n ≤ 1000) (hw : wfG h) (hel : ∀ e ∈ h, e.length ≤ 30) (ha : n - (earsS h n).1.length ≤ 1) (A : Option Addr) (k : Nat) (w : World) (ra : GridI (PRow w) A h) :
    Calls Try.prog 9 #[.slice A n k] w (ParF w n (parE n (earsS h n).1)) := by
  have HE := Lib.hid (ears22_any h n hn hn1 hw hel A k w ra)
  have hle : (earsS h n).1.length ≤ n := by rw [← hn]; exact earsS_le h h.length
  have HIn : Hid (∀ e ∈ (earsS h n).1, e.1 < n ∧ e.2 < n) := Lib.hid (by rw [← hn]; exact ears_in h h.length)
  clear ra hel hw hn
  generalize (earsS h n).1 = E at *
  have hsub : IntKind.i64.wrap ((n : Int) - (E.length : Int)) = ((n - E.length : Nat) : Int) := by
    rw [show (n : Int) - (E.length : Int) = ((n - E.length : Nat) : Int) by omega]
    exact IntWalk.i64_in _ (by omega)
  have hgt : ((n - E.length : Nat) : Int) ≤ 1 := by omega
  obtain ⟨i0, hi, hz0, hz1, hz2⟩ := info_parts infoI
  have HI := Lib.hid hi
  have HI0 := Lib.hid hz0
  have HI1 := Lib.hid hz1
  have HI2 := Lib.hid hz2
  clear hi hz0 hz1 hz2
  go_enter Try.func9, Try.ntmps9
  go_upto_region 4 with (go_at_call 31; (with_reducible refine HE.out.mono ?_); rintro e w1 ⟨X1, k1, rfl, hg1, hr1⟩; have HG1 := Lib.hid hg1; have HX1 := Lib.hid hr1; clear hg1 hr1)
  clear HE hsub hgt
  have hw1 := HG1.out.size
  obtain ⟨pb, hpb⟩ : ∃ pb, w1.heap.size = pb := ⟨_, rfl⟩
  have HPb := Lib.hid hpb
  go_wp2_with (at_make; refine wpList_make_row _ rfl _ _ 25 rfl 3 i0 (.int .i64 0) Try.underlying25 HI.out HI0.out HI1.out rfl _ _ n rfl rfl (by rw [HI2.out]; omega) (by omega) ?_)
  have H0 : Hid (PaA w1 w1.heap.size n (.int .i64 (0 : Nat)) (w1.alloc (.cells (madeCells #[.int .i64 0] n) 3))) := Lib.hid ⟨0, List.replicate n 0, Nat.zero_le _, rfl, (Grew.refl w1).alloc _, by simp, by
    have e : (iV (List.replicate n 0)).toArray = madeCells #[.int .i64 0] n := by
      apply Array.ext'
      rw [toList_madeCells_one]
      simp [iV]
    rw [e]
    exact Blok.new w1 3 (madeCells #[.int .i64 0] n) _ rfl, fun i hi => by omega⟩
  have HXg := Lib.hid (fun W (hW : Grew w1 W) => HX1.out.grew hW)
  generalize w1.alloc (.cells (madeCells #[.int .i64 0] n) 3) = w2 at *
  rw [hpb] at H0
  clear hpb
  go_loopw [22] (fun x wr => PaA w1 pb n x wr) (fun x _ => n - (intOf x).toNat)
  case atStart => exact H0.out
  case round =>
    obtain ⟨j, l, hj, rfl, hg, hl, hb, hk⟩ := hrel
    have HG := Lib.hid hg
    have HB := Lib.hid hb
    have HK := Lib.hid hk
    have HL := Lib.hid hl
    clear hg hb hk H0 hl
    by_cases h1 : j < n
    · have t0 := HB.out.cell j
      have hjl : j < l.length := by rw [HL.out]; exact h1
      rw [show ((iV l).toArray)[j]? = some (.int .i64 l[j]) by simp [iV, hjl]] at t0
      have t1 := HB.out.thaw j
      have tl := HB.out.lt
      have HB2 : Hid (Blok (wr.setCell ⟨pb, j, none⟩ (.int .i64 (-1))) pb 3 (iV (l.set j (-1))).toArray) := Lib.hid (by
        have := HB.out.set j (.int .i64 (-1))
        rwa [iV_set] at this)
      have HG2 : Hid (Grew w1 (wr.setCell ⟨pb, j, none⟩ (.int .i64 (-1)))) := Lib.hid (HG.out.setCell (a := ⟨pb, j, none⟩) (by rw [HPb.out]; exact Nat.le_refl _) _)
      have HK2 : Hid (∀ i, i < j + 1 → (l.set j (-1))[i]? = some (-1)) := Lib.hid fun i hi => by
        by_cases e : i = j
        · subst e; rw [List.getElem?_set_self hjl]
        · rw [List.getElem?_set_ne (fun e2 => e e2.symm)]; exact HK.out i (by omega)
      have HL2 : Hid ((l.set j (-1)).length = n) := Lib.hid (by rw [List.length_set]; exact HL.out)
      generalize l[j] = y at *
      generalize l.set j (-1) = l2 at *
      clear HK HL hjl
      go_wp2
      exact ⟨⟨j + 1, l2, by omega, by go_num, HG2.out, HL2.out, HB2.out, HK2.out⟩, by simp only [intOf]; omega⟩
    · obtain rfl : j = n := by omega
      have HR0 : Hid (PaB w1 pb j E (.int .i64 (0 : Nat)) wr) := Lib.hid ⟨0, Nat.zero_le _, rfl, HG.out, by
        have e : l = parE j (E.take 0) := by
          rw [List.take_zero]
          show l = List.replicate j (-1)
          refine List.ext_getElem? fun i => ?_
          by_cases hi : i < j
          · rw [HK.out i hi]; simp [hi]
          · rw [List.getElem?_eq_none (by rw [HL.out]; omega), List.getElem?_eq_none (by simp; omega)]
        rw [← e]
        exact HB.out⟩
      clear HG HB HK HL
      go_wp2
      go_loopw [31] (fun x wx => PaB w1 pb j E x wx) (fun x _ => E.length - (intOf x).toNat)
      case atStart => exact HR0.out
      case round =>
        obtain ⟨q, hq, rfl, hg, hb⟩ := hrel
        have HG := Lib.hid hg
        have HB := Lib.hid hb
        clear hg hb HR0
        by_cases h2 : q < E.length
        · obtain ⟨b1, o1, rfl, hb1, c1, c2⟩ := row_ears (HXg.out _ HG.out) h2
          obtain ⟨i1, i2⟩ := HIn.out _ (List.getElem_mem h2)
          have HP : Hid (parE j (E.take (q + 1)) = (parE j (E.take q)).set E[q].1 (E[q].2 : Int)) := Lib.hid (by rw [List.take_succ_eq_append_getElem h2, parE_snoc])
          have HPl : Hid ((parE j (E.take q)).length = j) := Lib.hid (parE_len _ _)
          generalize E[q] = e at *
          obtain ⟨ea, ep⟩ := e
          simp only at c1 c2 i1 i2 HP
          generalize parE j (E.take q) = pl at *
          go_upto_region 13 with fail
          have hpbne : pb ≠ wr.heap.size := by have := HB.out.lt; omega
          obtain ⟨w3, hw3⟩ : ∃ w3, w3 = wr.alloc (.cells #[.int .i64 ea, .int .i64 ep] 42) := ⟨_, rfl⟩
          have HB3 := Lib.hid (HB.out.grew (show Grew wr w3 by rw [hw3]; exact (Grew.refl wr).alloc _))
          have HG3 := Lib.hid (HG.out.trans (show Grew wr w3 by rw [hw3]; exact (Grew.refl wr).alloc _))
          have hbk : Blok w3 wr.heap.size 42 #[.int .i64 ea, .int .i64 ep] := by rw [hw3]; exact Blok.new _ _ _ _ rfl
          rw [← hw3]
          clear hw3 c1 c2 hb1
          have d0 := hbk.cell 0
          have d1 := hbk.cell 1
          have dl := hbk.lt
          simp at d0 d1
          generalize wr.heap.size = g at *
          have t0 := HB3.out.cell ea
          have hel : ea < pl.length := by rw [HPl.out]; exact i1
          rw [show ((iV pl).toArray)[ea]? = some (.int .i64 pl[ea]) by simp [iV, hel]] at t0
          have t1 := HB3.out.thaw ea
          have tl := HB3.out.lt
          have HB4 : Hid (Blok (w3.setCell ⟨pb, ea, none⟩ (.int .i64 ep)) pb 3 (iV (pl.set ea (ep : Int))).toArray) := Lib.hid (by
            have := HB3.out.set ea (.int .i64 ep)
            rwa [iV_set] at this)
          have HG4 : Hid (Grew w1 (w3.setCell ⟨pb, ea, none⟩ (.int .i64 ep))) := Lib.hid (HG3.out.setCell (a := ⟨pb, ea, none⟩) (by rw [HPb.out]; exact Nat.le_refl _) _)
          rw [← HP.out] at HB4
          clear hbk
          generalize pl[ea] = y at *
          go_wp2
          exact ⟨⟨q + 1, by omega, by go_num, HG4.out, HB4.out⟩, by simp only [intOf]; omega⟩
        · obtain rfl : q = E.length := by omega
          have HF : Hid (ParF w j (parE j E) (.returned (.tuple #[.slice (some ⟨pb, 0, none⟩) j j, .bool true])) wr) := Lib.hid (by
            have := HB.out
            rw [List.take_length] at this
            exact ⟨_, _, rfl, HG1.out.trans HG.out, row_blok this⟩)
          go_wp2
          go_ret2
          exact HF.out
end Go.Proofs.Ytpdkacfhnmfmaaa
