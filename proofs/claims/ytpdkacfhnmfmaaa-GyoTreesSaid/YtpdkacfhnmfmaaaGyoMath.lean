/- Layer 22: whichever ears are removed, the same comes of it; there is a join tree just if ears leave one edge at most: plain mathematics. No condition. -/
import Derived.Test.YtpdkacfhnmfmaaaTT
namespace Go.Proofs.Ytpdkacfhnmfmaaa

/-- An edge that is there is an ear, with a parent. -/
def EarC (h : List (List Int)) (L : List Bool) (i p : Nat) : Prop := i < h.length ∧ thB L i = true ∧ p < h.length ∧ p ≠ i ∧ thB L p = true ∧
  ∀ k, k < h.length → k ≠ i → thB L k = true → ∀ x, x ∈ edgeAt h i → x ∈ edgeAt h k → x ∈ edgeAt h p
def Few (L : List Bool) : Prop := ∀ x y, thB L x = true → thB L y = true → x = y
def RedN (h : List (List Int)) : Nat → List Bool → Prop
  | 0, L => Few L
  | m + 1, L => ∃ i p, EarC h L i p ∧ RedN h m (L.set i false)
theorem earC_of {h : List (List Int)} {L : List Bool} {i p : Nat} (he : earP h L i = some p) : EarC h L i p := by
  obtain ⟨h1, h2, h3, h4, h5, h6⟩ := earP_inv he
  exact ⟨h1, h2, h3, h4, h5, earOk_iff.1 h6⟩
theorem earP_of {h : List (List Int)} {L : List Bool} {i p : Nat} (he : EarC h L i p) : ∃ q, earP h L i = some q := by
  obtain ⟨h1, h2, h3, h4, h5, h6⟩ := he
  unfold earP
  rw [if_pos (by rw [h2, decide_eq_true h1]; rfl)]
  cases hf : (List.range h.length).find? (earQ h L i) with
  | some q => exact ⟨q, rfl⟩
  | none =>
    rw [List.find?_eq_none] at hf
    have := hf p (List.mem_range.2 h3)
    refine absurd ?_ this
    unfold earQ
    rw [h5, earOk_iff.2 h6]
    simpa using h4
theorem th_off {L : List Bool} {i k : Nat} : thB (L.set i false) k = true ↔ thB L k = true ∧ k ≠ i := by
  rw [thB_set, Bool.and_eq_true, bne_iff_ne]
theorem redN_congr {h : List (List Int)} : ∀ (m : Nat) (L L' : List Bool), (∀ k, thB L k = thB L' k) → RedN h m L → RedN h m L'
  | 0, L, L', e, H => fun x y hx hy => H x y (by rw [e]; exact hx) (by rw [e]; exact hy)
  | m + 1, L, L', e, ⟨i, p, ⟨h1, h2, h3, h4, h5, h6⟩, H⟩ =>
    ⟨i, p, ⟨h1, by rw [← e]; exact h2, h3, h4, by rw [← e]; exact h5, fun k hk hki hl => h6 k hk hki (by rw [e]; exact hl)⟩, redN_congr m _ _ (fun k => by rw [thB_set, thB_set, e]) H⟩
theorem redN_swap {h : List (List Int)} {i j : Nat} (hj : j < h.length) (hij : i ≠ j) : ∀ (m : Nat) (La Lb : List Bool), thB La i = true → thB La j = false → thB Lb j = true → thB Lb i = false → (∀ k, k ≠ i → k ≠ j → thB La k = thB Lb k) →
    (∀ k, k < h.length → k ≠ i → thB La k = true → ∀ v, v ∈ edgeAt h k → (v ∈ edgeAt h i ↔ v ∈ edgeAt h j)) → RedN h m La → RedN h m Lb
  | 0, La, Lb, ai, aj, bj, bi, e, hv, H => fun x y hx hy => by
    have hxi : x ≠ i := fun q => by rw [q, bi] at hx; cases hx
    have hyi : y ≠ i := fun q => by rw [q, bi] at hy; cases hy
    by_cases hxj : x = j
    · by_cases hyj : y = j
      · rw [hxj, hyj]
      · exact absurd (H i y ai (by rw [e y hyi hyj]; exact hy)).symm hyi
    · by_cases hyj : y = j
      · exact absurd (H i x ai (by rw [e x hxi hxj]; exact hx)).symm hxi
      · exact H x y (by rw [e x hxi hxj]; exact hx) (by rw [e y hyi hyj]; exact hy)
  | m + 1, La, Lb, ai, aj, bj, bi, e, hv, ⟨a, b, ⟨h1, h2, h3, h4, h5, h6⟩, H⟩ => by
    have hbj0 : b ≠ j := fun q => by rw [q, aj] at h5; cases h5
    have haj0 : a ≠ j := fun q => by rw [q, aj] at h2; cases h2
    have hback : ∀ k, k ≠ j → thB Lb k = true → thB La k = true ∧ k ≠ i := fun k hkj hk => by
      have hki : k ≠ i := fun q => by rw [q, bi] at hk; cases hk
      exact ⟨by rw [e k hki hkj]; exact hk, hki⟩
    by_cases hai : a = i
    · subst hai
      refine ⟨j, b, ⟨hj, bj, h3, hbj0, by rw [← e b h4 hbj0]; exact h5, fun k hk hkj hl v hvj hvk => ?_⟩, redN_congr m _ _ (fun k => ?_) H⟩
      · obtain ⟨hlk, hki⟩ := hback k hkj hl
        exact h6 k hk hki hlk v ((hv k hk hki hlk v hvk).2 hvj) hvk
      · rw [thB_set, thB_set]
        by_cases hki : k = a
        · subst hki; rw [bi]; simp
        · by_cases hkj : k = j
          · subst hkj; rw [aj]; simp
          · rw [e k hki hkj]
            have e1 : (k != a) = true := by simpa using hki
            have e2 : (k != j) = true := by simpa using hkj
            rw [e1, e2]
    · have hla : thB Lb a = true := by rw [← e a hai haj0]; exact h2
      have hrec : RedN h m (Lb.set a false) := by
        refine redN_swap hj hij m (La.set a false) (Lb.set a false) (by rw [th_off]; exact ⟨ai, fun q => hai q.symm⟩) (by rw [thB_set, aj]; rfl) (by rw [th_off]; exact ⟨bj, fun q => haj0 q.symm⟩) (by rw [thB_set, bi]; rfl) (fun k hki hkj => by rw [thB_set, thB_set, e k hki hkj]) (fun k hk hki hl v => hv k hk hki (th_off.1 hl).1 v) H
      have hcond : ∀ k, k < h.length → k ≠ a → thB Lb k = true → ∀ v, v ∈ edgeAt h a → v ∈ edgeAt h k → v ∈ edgeAt h b := fun k hk hka hl v hva hvk => by
        by_cases hkj : k = j
        · subst hkj
          have hvi := (hv a h1 hai h2 v hva).2 hvk
          have hil : i < h.length := by
            rcases Nat.lt_or_ge i h.length with q | q
            · exact q
            · exfalso
              unfold edgeAt at hvi
              rw [List.getD_eq_getElem?_getD, List.getElem?_eq_none q] at hvi
              cases hvi
          exact h6 i hil (fun q => hai q.symm) ai v hva hvi
        · obtain ⟨hlk, hki⟩ := hback k hkj hl
          exact h6 k hk hka hlk v hva hvk
      by_cases hbi : b = i
      · subst hbi
        exact ⟨a, j, ⟨h1, hla, hj, fun q => haj0 q.symm, bj, fun k hk hka hl v hva hvk => (hv a h1 hai h2 v hva).1 (hcond k hk hka hl v hva hvk)⟩, hrec⟩
      · exact ⟨a, b, ⟨h1, hla, h3, h4, by rw [← e b hbi hbj0]; exact h5, hcond⟩, hrec⟩
theorem redN_conf {h : List (List Int)} : ∀ (m : Nat) (L : List Bool) (i p : Nat), RedN h m L → EarC h L i p → ∃ m', m = m' + 1 ∧ RedN h m' (L.set i false)
  | 0, L, i, p, H, ⟨_, h2, _, h4, h5, _⟩ => absurd (H p i h5 h2) h4
  | m + 1, L, i, p, ⟨j, q, ⟨j1, j2, j3, j4, j5, j6⟩, H⟩, ⟨h1, h2, h3, h4, h5, h6⟩ => by
    refine ⟨m, rfl, ?_⟩
    by_cases hji : j = i
    · subst hji; exact H
    by_cases hmut : p = j ∧ q = i
    · obtain ⟨rfl, rfl⟩ := hmut
      refine redN_swap (i := q) (j := p) h3 (fun e => h4 e.symm) m (L.set p false) (L.set q false) (by rw [th_off]; exact ⟨h2, fun e => h4 e.symm⟩) (by rw [thB_set]; simp) (by rw [th_off]; exact ⟨h5, h4⟩) (by rw [thB_set]; simp) (fun k hk1 hk2 => ?_) (fun k hk hkq hl v hv => ⟨fun a => ?_, fun a => ?_⟩) H
      · rw [thB_set, thB_set]
        have e1 : (k != p) = true := by simpa using hk2
        have e2 : (k != q) = true := by simpa using hk1
        rw [e1, e2]
      · exact h6 k hk hkq (th_off.1 hl).1 v a hv
      · exact j6 k hk (th_off.1 hl).2 (th_off.1 hl).1 v a hv
    · have hi : ∃ p', EarC h (L.set j false) i p' := by
        by_cases hpj : p = j
        · subst hpj
          have hqi : q ≠ i := fun e => hmut ⟨rfl, e⟩
          exact ⟨q, h1, th_off.2 ⟨h2, fun e => hji e.symm⟩, j3, hqi, th_off.2 ⟨j5, j4⟩, fun k hk hki hl v hv1 hv2 => by
            obtain ⟨hl1, hkp⟩ := th_off.1 hl
            exact j6 k hk hkp hl1 v (h6 k hk hki hl1 v hv1 hv2) hv2⟩
        · exact ⟨p, h1, th_off.2 ⟨h2, fun e => hji e.symm⟩, h3, h4, th_off.2 ⟨h5, hpj⟩, fun k hk hki hl v hv1 hv2 => h6 k hk hki (th_off.1 hl).1 v hv1 hv2⟩
      have hj : ∃ q', EarC h (L.set i false) j q' := by
        by_cases hqi : q = i
        · subst hqi
          have hpj : p ≠ j := fun e => hmut ⟨e, rfl⟩
          exact ⟨p, j1, th_off.2 ⟨j2, hji⟩, h3, hpj, th_off.2 ⟨h5, h4⟩, fun k hk hkj hl v hv1 hv2 => by
            obtain ⟨hl1, hkq⟩ := th_off.1 hl
            exact h6 k hk hkq hl1 v (j6 k hk hkj hl1 v hv1 hv2) hv2⟩
        · exact ⟨q, j1, th_off.2 ⟨j2, hji⟩, j3, j4, th_off.2 ⟨j5, hqi⟩, fun k hk hkj hl v hv1 hv2 => j6 k hk hkj (th_off.1 hl).1 v hv1 hv2⟩
      obtain ⟨p', hp'⟩ := hi
      obtain ⟨q', hq'⟩ := hj
      obtain ⟨m', rfl, hr⟩ := redN_conf m (L.set j false) i p' H hp'
      refine ⟨j, q', hq', ?_⟩
      rw [List.set_comm _ _ (fun e => hji e.symm)]
      exact hr
/-- Beside any one edge there is another ear. -/
theorem other_ear {h : List (List Int)} : ∀ (m : Nat) (L : List Bool) (z : Nat), RedN h m L → (∃ x y, x ≠ y ∧ thB L x = true ∧ thB L y = true) → ∃ i p, EarC h L i p ∧ i ≠ z
  | 0, L, z, H, ⟨x, y, hxy, hx, hy⟩ => absurd (H x y hx hy) hxy
  | m + 1, L, z, ⟨j, q, ⟨j1, j2, j3, j4, j5, j6⟩, H⟩, _ => by
    by_cases hjz : j = z
    · subst hjz
      by_cases hmore : ∃ x, x ≠ q ∧ thB (L.set j false) x = true
      · obtain ⟨x, hxq, hx⟩ := hmore
        obtain ⟨i, p, ⟨i1, i2, i3, i4, i5, i6⟩, hiq⟩ := other_ear m (L.set j false) q H ⟨x, q, hxq, hx, th_off.2 ⟨j5, j4⟩⟩
        obtain ⟨i2a, hij⟩ := th_off.1 i2
        refine ⟨i, p, ⟨i1, i2a, i3, i4, (th_off.1 i5).1, fun k hk hki hl v hv1 hv2 => ?_⟩, hij⟩
        by_cases hkj : k = j
        · subst hkj
          exact i6 q j3 (fun e => hiq e.symm) (th_off.2 ⟨j5, j4⟩) v hv1 (j6 i i1 hij i2a v hv2 hv1)
        · exact i6 k hk hki (th_off.2 ⟨hl, hkj⟩) v hv1 hv2
      · refine ⟨q, j, ⟨j3, j5, j1, fun e => j4 e.symm, j2, fun k hk hkq hl v hv1 hv2 => ?_⟩, j4⟩
        have hkj : k = j := by
          rcases Nat.decEq k j with q2 | q2
          · exact absurd ⟨k, hkq, th_off.2 ⟨hl, q2⟩⟩ hmore
          · exact q2
        subst hkj
        exact hv2
    · exact ⟨j, q, ⟨j1, j2, j3, j4, j5, j6⟩, hjz⟩
theorem few_count {L : List Bool} (H : Few L) : L.count true ≤ 1 := by
  induction L with
  | nil => simp
  | cons a t ih =>
    have ht : Few t := fun x y hx hy => by
      have := H (x + 1) (y + 1) (by unfold thB at *; simpa using hx) (by unfold thB at *; simpa using hy)
      omega
    cases a
    · have := ih ht
      rw [List.count_cons_of_ne (by simp)]
      exact this
    · have h0 : t.count true = 0 := by
        rw [List.count_eq_zero]
        intro hm
        obtain ⟨i, hi, he⟩ := List.getElem_of_mem hm
        have h1 : thB t i = true := by rw [thB_at hi]; exact he
        have := H 0 (i + 1) rfl (by unfold thB at *; simpa using h1)
        omega
      rw [List.count_cons_self, h0]
      exact Nat.le_refl _
theorem few_of {L : List Bool} (H : L.count true ≤ 1) : Few L := fun x y hx hy => by
  rcases Nat.lt_trichotomy x y with h | h | h
  · have := count_two h hx hy; omega
  · exact h
  · have := count_two h hy hx; omega
/-- Ears that are removed, one after the other. -/
inductive EarSeq (h : List (List Int)) : List (Nat × Nat) → List Bool → Prop
  | nil : EarSeq h [] (List.replicate h.length true)
  | snoc {E : List (Nat × Nat)} {L : List Bool} {i p : Nat} : EarSeq h E L → EarC h L i p → EarSeq h (E ++ [(i, p)]) (L.set i false)
theorem EarSeq.count {h : List (List Int)} {E : List (Nat × Nat)} {L : List Bool} (s : EarSeq h E L) : E.length + L.count true = h.length := by
  induction s with
  | nil => simp
  | snoc s e ih =>
    have := count_off e.2.1
    rw [List.length_append, List.length_singleton]
    omega
theorem EarSeq.rank {h : List (List Int)} {E : List (Nat × Nat)} {L : List Bool} (s : EarSeq h E L) : ∃ rk, RkI h E L rk := by
  induction s with
  | nil =>
    have hL : ∀ x, x < h.length → thB (List.replicate h.length true) x = true := fun x hx => by
      rw [thB_at (by simpa using hx)]
      simp
    refine ⟨fun _ => h.length, fun x hx _ => ⟨rfl, ?_⟩, fun x hx h2 => ?_, fun x y hx _ h2 => ?_⟩
    · show (List.replicate h.length (-1 : Int))[x]? = _
      simp [hx]
    · rw [hL x hx] at h2; cases h2
    · rw [hL x hx] at h2; cases h2
  | @snoc E L i p s e ih =>
    obtain ⟨rk, ih⟩ := ih
    obtain ⟨hi, hti, hp, hpi, htp, hok⟩ := e
    have hcount := s.count
    have hco := count_off hti
    have hpos : 0 < (L.set i false).count true := by
      have h1 : thB (L.set i false) p = true := th_off.2 ⟨htp, hpi⟩
      have h2 := thB_lt h1
      rw [thB_at h2] at h1
      exact List.count_pos_iff.2 (by rw [← h1]; exact List.getElem_mem h2)
    have hE : E.length + 2 ≤ h.length := by omega
    have hset : ∀ x, thB (L.set i false) x = (thB L x && (x != i)) := fun x => thB_set
    have hli : i < (parE h.length E).length := by rw [parE_len]; exact hi
    refine ⟨fun x => if x = i then E.length + 1 else rk x, fun x hx hl => ?_, fun x hx hl => ?_, fun x y hx hy hlx hly hxy => ?_⟩
    · rw [hset, Bool.and_eq_true, bne_iff_ne] at hl
      obtain ⟨h1, h2⟩ := ih.left x hx hl.1
      simp only [if_neg hl.2]
      refine ⟨h1, ?_⟩
      rw [parE_snoc, List.getElem?_set_ne (fun e => hl.2 e.symm)]
      exact h2
    · by_cases hxi : x = i
      · subst hxi
        simp only [if_true, List.length_append, List.length_singleton]
        refine ⟨by omega, by omega, p, hp, ?_, ?_, fun b hb hbx hr v h1 h2 => ?_⟩
        · rw [parE_snoc, List.getElem?_set_self hli]
        · rw [if_neg hpi, (ih.left p hp htp).1]; omega
        · rw [if_neg hbx] at hr
          have htb : thB L b = true := by
            cases hb2 : thB L b
            · have := (ih.gone b hb hb2).2.1; omega
            · rfl
          exact hok b hb hbx htb v h1 h2
      · have hl0 : thB L x = false := by
          rw [hset] at hl
          have : (x != i) = true := by simpa using hxi
          rw [this, Bool.and_true] at hl
          exact hl
        obtain ⟨h1, h2, p', hp', h3, h4, h5⟩ := ih.gone x hx hl0
        simp only [if_neg hxi, List.length_append, List.length_singleton]
        refine ⟨h1, by omega, p', hp', ?_, ?_, fun b hb hbx hr v hv1 hv2 => ?_⟩
        · rw [parE_snoc, List.getElem?_set_ne (fun e => hxi e.symm)]
          exact h3
        · split
          · omega
          · exact h4
        · refine h5 b hb hbx ?_ v hv1 hv2
          split at hr
          · rename_i e
            subst e
            rw [(ih.left b hb hti).1]; omega
          · exact hr
    · have hz : ∀ x, x < h.length → thB (L.set i false) x = false → x ≠ i → thB L x = false := fun x _ hl hxi => by
        rw [hset] at hl
        have : (x != i) = true := by simpa using hxi
        rw [this, Bool.and_true] at hl
        exact hl
      by_cases hxi : x = i
      · by_cases hyi : y = i
        · rw [hxi, hyi]
        · simp only [if_pos hxi, if_neg hyi] at hxy
          have := (ih.gone y hy (hz y hy hly hyi)).2.1
          omega
      · by_cases hyi : y = i
        · simp only [if_neg hxi, if_pos hyi] at hxy
          have := (ih.gone x hx (hz x hx hlx hxi)).2.1
          omega
        · simp only [if_neg hxi, if_neg hyi] at hxy
          exact ih.inj x y hx hy (hz x hx hlx hxi) (hz y hy hly hyi) hxy
theorem ranked_of {h : List (List Int)} {E : List (Nat × Nat)} {L : List Bool} {rk : Nat → Nat} (I : RkI h E L rk) (hc : E.length + L.count true = h.length) (ha : L.count true ≤ 1) (hne : 0 < L.count true) : Ranked h (parE h.length E) rk := by
  have hEn : E.length < h.length := by omega
  have hone := few_of ha
  refine ⟨parE_len _ _, fun x hx => ?_, fun x hx => ?_, fun x y hx hy hxy => ?_⟩
  · cases h1 : thB L x
    · have := I.gone x hx h1; omega
    · have := (I.left x hx h1).1; omega
  · have hxh : x < h.length := by rwa [parE_len] at hx
    cases h1 : thB L x
    · obtain ⟨_, _, p, hp, h3, h4, h5⟩ := I.gone x hxh h1
      rw [List.getElem?_eq_getElem hx] at h3
      injection h3 with h3
      exact Or.inr ⟨p, hp, h3, h4, h5⟩
    · obtain ⟨h2, h3⟩ := I.left x hxh h1
      rw [List.getElem?_eq_getElem hx] at h3
      injection h3 with h3
      exact Or.inl ⟨h3, h2⟩
  · cases h1 : thB L x
    · cases h2 : thB L y
      · exact I.inj x y hx hy h1 h2 hxy
      · have a := (I.gone x hx h1).2.1
        have c := (I.left y hy h2).1
        omega
    · cases h2 : thB L y
      · have a := (I.gone y hy h2).2.1
        have c := (I.left x hx h1).1
        omega
      · exact hone x y h1 h2
/-- Down to one edge that is chosen. -/
theorem to_root {h : List (List Int)} {z : Nat} : ∀ (m : Nat) (E : List (Nat × Nat)) (L : List Bool), EarSeq h E L → RedN h m L → thB L z = true → ∃ E' L', EarSeq h E' L' ∧ thB L' z = true ∧ Few L'
  | 0, E, L, s, H, hz => ⟨E, L, s, hz, H⟩
  | m + 1, E, L, s, H, hz => by
    by_cases hf : Few L
    · exact ⟨E, L, s, hz, hf⟩
    · have hne : ∃ x y, x ≠ y ∧ thB L x = true ∧ thB L y = true := by
        apply Classical.byContradiction
        intro hno
        exact hf fun x y hx hy => Classical.byContradiction fun e => hno ⟨x, y, e, hx, hy⟩
      obtain ⟨i, p, he, hiz⟩ := other_ear (m + 1) L z H hne
      obtain ⟨m', e, hr⟩ := redN_conf (m + 1) L i p H he
      obtain rfl : m = m' := by omega
      exact to_root m _ _ (s.snoc he) hr (th_off.2 ⟨hz, fun e => hiz e.symm⟩)
/-- What the greedy way leaves. -/
theorem stop_or (h : List (List Int)) (k : Nat) : stepE h (earsS h k).2 = none ∨ (earsS h k).1.length = k := by
  induction k with
  | zero => exact Or.inr rfl
  | succ k ih =>
    cases hs : stepE h (earsS h k).2 with
    | none => rw [earsS_none hs]; exact Or.inl hs
    | some q =>
      rw [earsS_some hs]
      rcases ih with ih | ih
      · rw [ih] at hs; cases hs
      · refine Or.inr ?_
        rw [List.length_append, ih]
        rfl
theorem stop_end (h : List (List Int)) : stepE h (earsS h h.length).2 = none := by
  rcases stop_or h h.length with h1 | h1
  · exact h1
  · cases hs : stepE h (earsS h h.length).2 with
    | none => rfl
    | some q =>
      obtain ⟨i, p⟩ := q
      have h2 := (earP_inv (stepE_inv hs).2).2.1
      have h3 := earsS_count h h.length
      have h4 := thB_lt h2
      rw [thB_at h4] at h2
      have : 0 < (earsS h h.length).2.count true := List.count_pos_iff.2 (by rw [← h2]; exact List.getElem_mem h4)
      omega
theorem stepE_ear {h : List (List Int)} {L : List Bool} (hs : stepE h L = none) {i p : Nat} (he : EarC h L i p) : False := by
  obtain ⟨q, hq⟩ := earP_of he
  unfold stepE at hs
  cases hf : (List.range h.length).find? fun i => (earP h L i).isSome with
  | none =>
    rw [List.find?_eq_none] at hf
    have := hf i (List.mem_range.2 he.1)
    rw [hq] at this
    simp at this
  | some k =>
    rw [hf] at hs
    simp only at hs
    rw [List.find?_range_eq_some] at hf
    cases hk : earP h L k with
    | none => rw [hk] at hf; simp at hf
    | some r => rw [hk] at hs; cases hs
theorem red_keeps {h : List (List Int)} {m : Nat} (H : RedN h m (List.replicate h.length true)) (k : Nat) : ∃ m', RedN h m' (earsS h k).2 := by
  induction k with
  | zero => exact ⟨m, H⟩
  | succ k ih =>
    obtain ⟨m', hm⟩ := ih
    cases hs : stepE h (earsS h k).2 with
    | none => rw [earsS_none hs]; exact ⟨m', hm⟩
    | some q =>
      obtain ⟨i, p⟩ := q
      obtain ⟨m2, _, h2⟩ := redN_conf m' _ i p hm (earC_of (stepE_inv hs).2)
      rw [earsS_some hs]
      exact ⟨m2, h2⟩
/-- Reducible: then the greedy way ends with one at most. -/
theorem greedy_of {h : List (List Int)} {m : Nat} (H : RedN h m (List.replicate h.length true)) : (leftI h).length ≤ 1 := by
  obtain ⟨m', hm⟩ := red_keeps H h.length
  have hs := stop_end h
  have hf : Few (earsS h h.length).2 := by
    cases m' with
    | zero => exact hm
    | succ m' =>
      obtain ⟨i, p, he, _⟩ := hm
      exact (stepE_ear hs he).elim
  have h1 := few_count hf
  have h2 := earsS_count h h.length
  have h3 := leftI_len h
  omega
/-- The greedy way ends with one at most: then it is reducible. -/
theorem of_greedy {h : List (List Int)} (ha : (leftI h).length ≤ 1) : ∃ m, RedN h m (List.replicate h.length true) := by
  have h2 := earsS_count h h.length
  have h3 := leftI_len h
  have key : ∀ j, j ≤ h.length → ∃ m, RedN h m (earsS h (h.length - j)).2 := by
    intro j
    induction j with
    | zero => intro _; exact ⟨0, few_of (by rw [Nat.sub_zero]; omega)⟩
    | succ j ih =>
      intro hj
      obtain ⟨m, hm⟩ := ih (by omega)
      have e : h.length - j = (h.length - (j + 1)) + 1 := by omega
      rw [e] at hm
      cases hs : stepE h (earsS h (h.length - (j + 1))).2 with
      | none => rw [earsS_none hs] at hm; exact ⟨m, hm⟩
      | some q =>
        obtain ⟨i, p⟩ := q
        rw [earsS_some hs] at hm
        exact ⟨m + 1, i, p, earC_of (stepE_inv hs).2, hm⟩
  have := key h.length (Nat.le_refl _)
  rw [Nat.sub_self] at this
  exact this
end Go.Proofs.Ytpdkacfhnmfmaaa
