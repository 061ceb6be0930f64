/- Layer 23: the page's example; neighbours, by the document. Condition: nodes that are there. -/
import Derived.Test.YtpdkacfhnmfmaaaJA
import Derived.WalkMore
import Derived.Test.YtpdkacfhnmfmaaaGG
import Derived.Maps.OwnOps
import Derived.Test.YtpdkacfhnmfmaaaStat3
import Derived.Test.YtpdkacfhnmfmaaaSame

/- Layer 23: climbing step by step: what ends, and what goes round: plain mathematics. No condition. -/
namespace Go.Proofs.Ytpdkacfhnmfmaaa

def inP (p : List Int) (i : Int) : Prop := 0 ≤ i ∧ i < p.length
theorem endN_in {p : List Int} {i : Int} (h : 0 ≤ i ∧ i < p.length) (f : Nat) : endN p (f + 1) i = endN p f (p.getD i.toNat 0) := by
  rw [endN, if_pos h]
theorem endN_out {p : List Int} {i : Int} (h : ¬ (0 ≤ i ∧ i < p.length)) (f : Nat) : endN p f i = i := by
  cases f with
  | zero => rfl
  | succ f => rw [endN, if_neg h]
theorem endN_add (p : List Int) : ∀ (a b : Nat) (i : Int), endN p (a + b) i = endN p b (endN p a i) := by
  intro a
  induction a with
  | zero => intro b i; rw [Nat.zero_add]; rfl
  | succ a ih =>
    intro b i
    by_cases h : 0 ≤ i ∧ i < p.length
    · rw [show a + 1 + b = (a + b) + 1 by omega, endN_in h, ih, endN_in h]
    · rw [endN_out h, endN_out h, endN_out h]
/-- The way up from i leads to no node but by the root. -/
def Ends (p : List Int) (i : Int) : Prop := ∃ f, endN p f i = -1
theorem minus_out (p : List Int) : ¬ (0 ≤ (-1 : Int) ∧ (-1 : Int) < p.length) := by omega
theorem endN_stay {p : List Int} {i : Int} {f : Nat} (h : endN p f i = -1) {g : Nat} (hg : f ≤ g) : endN p g i = -1 := by
  obtain ⟨d, rfl⟩ : ∃ d, g = f + d := ⟨g - f, by omega⟩
  rw [endN_add, h, endN_out (minus_out p)]
theorem not_ends_out {p : List Int} {i e : Int} {m : Nat} (h : endN p m i = e) (ho : ¬ (0 ≤ e ∧ e < p.length)) (he : e ≠ -1) : ¬ Ends p i := by
  rintro ⟨f, hf⟩
  have h1 : endN p (m + f) i = e := by rw [endN_add, h, endN_out ho]
  have h2 := endN_stay hf (show f ≤ m + f by omega)
  exact he (h1.symm.trans h2)
theorem cycle_more {p : List Int} {e : Int} {m : Nat} (h : endN p m e = e) : ∀ k, endN p (k * m) e = e := by
  intro k
  induction k with
  | zero => rw [Nat.zero_mul]; rfl
  | succ k ih => rw [Nat.succ_mul, endN_add, ih, h]
theorem not_ends_cycle {p : List Int} {e : Int} {m : Nat} (hm : 0 < m) (h : endN p m e = e) (he : 0 ≤ e) : ¬ Ends p e := by
  rintro ⟨f, hf⟩
  have h1 := cycle_more h f
  have h2 := endN_stay hf (show f ≤ f * m from Nat.le_mul_of_pos_right f hm)
  rw [h1] at h2
  omega
theorem ends_back {p : List Int} {i e : Int} {m : Nat} (h : endN p m i = e) : Ends p i ↔ Ends p e := by
  constructor
  · rintro ⟨f, hf⟩
    refine ⟨f, ?_⟩
    rw [← h, ← endN_add, Nat.add_comm, endN_add, hf, endN_out (minus_out p)]
  · rintro ⟨f, hf⟩
    exact ⟨m + f, by rw [endN_add, h, hf]⟩
/-- What marking on the way up does: so many nodes are marked as steps are made; those that are marked are on the way; it stops outside or where a mark was. -/
theorem markS_spec (p : List Int) (v : Int) (hv : v ≠ 0) : ∀ (f : Nat) (first : List Int) (x : Int), first.length = p.length → zerosL first < f →
    ∃ m, zerosL (markS p v f first x).1 + m = zerosL first ∧ endN p m x = (markS p v f first x).2 ∧ (markS p v f first x).1.length = p.length ∧
      (∀ k, k < p.length → (markS p v f first x).1.getD k 0 = first.getD k 0 ∨ (first.getD k 0 = 0 ∧ (markS p v f first x).1.getD k 0 = v ∧ ∃ j, j < m ∧ endN p j x = (k : Int))) ∧
      (¬ (0 ≤ (markS p v f first x).2 ∧ (markS p v f first x).2 < p.length) ∨ (markS p v f first x).1.getD (markS p v f first x).2.toNat 0 ≠ 0) ∧
      (0 ≤ x → x < p.length → (markS p v f first x).1.getD x.toNat 0 ≠ 0) := by
  intro f
  induction f with
  | zero => intro first x _ h; exact absurd h (Nat.not_lt_zero _)
  | succ f ih =>
    intro first x hl hz
    by_cases hc : (0 ≤ x ∧ x < p.length) ∧ first.getD x.toNat 0 = 0
    · rw [markS_go hc]
      obtain ⟨hin, h0⟩ := hc
      have hxl : x.toNat < first.length := by omega
      have hg0 : first[x.toNat] = 0 := by
        rw [List.getD_eq_getElem?_getD, List.getElem?_eq_getElem hxl] at h0
        exact h0
      have hzs := zerosL_set (v := v) hxl hg0 hv
      obtain ⟨m, h1, h2, h3, h4, h5, h6⟩ := ih (first.set x.toNat v) (p.getD x.toNat 0) (by rw [List.length_set]; exact hl) (by omega)
      have hset : ∀ k, (first.set x.toNat v).getD k 0 = if x.toNat = k then v else first.getD k 0 := fun k => by
        rw [List.getD_eq_getElem?_getD, List.getElem?_set, List.getD_eq_getElem?_getD]
        by_cases e : x.toNat = k
        · rw [if_pos e, if_pos e, if_pos (by omega)]; rfl
        · rw [if_neg e, if_neg e]
      have hself : (markS p v f (first.set x.toNat v) (p.getD x.toNat 0)).1.getD x.toNat 0 = v := by
        rcases h4 x.toNat (by omega) with h | ⟨h, _⟩
        · rw [h, hset, if_pos rfl]
        · rw [hset, if_pos rfl] at h
          exact absurd h hv
      refine ⟨m + 1, by omega, by rw [endN_in hin]; exact h2, h3, fun k hk => ?_, h5, fun _ _ => by rw [hself]; exact hv⟩
      by_cases e : x.toNat = k
      · subst e
        exact Or.inr ⟨h0, hself, 0, Nat.succ_pos _, by show x = _; omega⟩
      · rcases h4 k hk with h | ⟨h, h', q, hq, hq2⟩
        · left
          rw [h, hset, if_neg e]
        · right
          rw [hset, if_neg e] at h
          exact ⟨h, h', q + 1, by omega, by rw [endN_in hin]; exact hq2⟩
    · rw [markS_stop hc]
      refine ⟨0, Nat.add_zero _, rfl, hl, fun k hk => Or.inl rfl, ?_, fun h1 h2 h3 => hc ⟨⟨h1, h2⟩, h3⟩⟩
      by_cases hin : 0 ≤ x ∧ x < p.length
      · exact Or.inr fun h => hc ⟨hin, h⟩
      · exact Or.inl hin
/-- While the nodes are gone through: all that are marked end, none is marked behind i. -/
structure MarkI (p : List Int) (i : Nat) (first : List Int) : Prop where
  len : first.length = p.length
  low : ∀ k, k < p.length → 0 ≤ first.getD k 0 ∧ first.getD k 0 ≤ i
  seen : ∀ k, k < i → k < p.length → first.getD k 0 ≠ 0
  ends : ∀ k : Nat, k < p.length → first.getD k 0 ≠ 0 → endN p (p.length - zerosL first) (k : Int) = -1
theorem markI_zero (p : List Int) : MarkI p 0 (List.replicate p.length 0) := by
  have e : ∀ k, (List.replicate p.length (0 : Int)).getD k 0 = 0 := fun k => by
    rw [List.getD_eq_getElem?_getD, List.getElem?_replicate]
    split <;> rfl
  exact ⟨List.length_replicate, fun k _ => by rw [e]; omega, fun k hk => absurd hk (Nat.not_lt_zero _), fun k _ h => absurd (e k) h⟩
theorem zerosL_le (first : List Int) : zerosL first ≤ first.length := List.countP_le_length
/-- One node more: either all that are marked end, or the list is no tree. -/
theorem markI_step {p : List Int} {i : Nat} {first : List Int} (h : MarkI p i first) (hi : i < p.length) {f : Nat} (hf : zerosL first < f) :
    ((markS p ((i : Int) + 1) f first i).2 = -1 → MarkI p (i + 1) (markS p ((i : Int) + 1) f first i).1) ∧
    ((markS p ((i : Int) + 1) f first i).2 ≠ -1 → ((markS p ((i : Int) + 1) f first i).2 < 0 ∨ (p.length : Int) ≤ (markS p ((i : Int) + 1) f first i).2 ∨ (markS p ((i : Int) + 1) f first i).1.getD (markS p ((i : Int) + 1) f first i).2.toNat 0 = (i : Int) + 1) → ¬ Ends p i) ∧
    (0 ≤ (markS p ((i : Int) + 1) f first i).2 → (markS p ((i : Int) + 1) f first i).2 < p.length → (markS p ((i : Int) + 1) f first i).1.getD (markS p ((i : Int) + 1) f first i).2.toNat 0 ≠ (i : Int) + 1 → MarkI p (i + 1) (markS p ((i : Int) + 1) f first i).1) := by
  obtain ⟨m, h1, h2, h3, h4, h5, h6⟩ := markS_spec p ((i : Int) + 1) (by omega) f first i h.len hf
  generalize (markS p ((i : Int) + 1) f first i).1 = F at *
  generalize (markS p ((i : Int) + 1) f first i).2 = e at *
  have hzl := zerosL_le first
  rw [h.len] at hzl
  have build : (e = -1 ∨ (0 ≤ e ∧ e < p.length ∧ F.getD e.toNat 0 ≠ (i : Int) + 1)) → MarkI p (i + 1) F := fun he => by
    have hend : endN p (p.length - zerosL first) e = -1 := by
      rcases he with he | ⟨e1, e2, e3⟩
      · rw [he, endN_out (minus_out p)]
      · rcases h4 e.toNat (by omega) with h7 | ⟨_, h7, _⟩
        · have h8 : F.getD e.toNat 0 ≠ 0 := by
            rcases h5 with h5 | h5
            · exact absurd ⟨e1, e2⟩ h5
            · exact h5
          have := h.ends e.toNat (by omega) (by rw [← h7]; exact h8)
          rwa [Int.toNat_of_nonneg e1] at this
        · exact absurd h7 e3
    refine ⟨h3, fun k hk => ?_, fun k hk hkp => ?_, fun k hk hF => ?_⟩
    · rcases h4 k hk with h7 | ⟨_, h7, _⟩
      · rw [h7]; have := h.low k hk; omega
      · rw [h7]; omega
    · by_cases e9 : k = i
      · subst e9
        have := h6 (by omega) (by omega)
        rwa [Int.toNat_natCast] at this
      · have h8 := h.seen k (by omega) hkp
        rcases h4 k hkp with h7 | ⟨h7, _⟩
        · rw [h7]; exact h8
        · exact absurd h7 h8
    · rcases h4 k hk with h7 | ⟨_, _, q, hq, hq2⟩
      · exact endN_stay (h.ends k hk (by rw [← h7]; exact hF)) (by omega)
      · have h8 : endN p (m - q) (k : Int) = e := by rw [← hq2, ← endN_add, show q + (m - q) = m by omega]; exact h2
        have h9 : endN p ((m - q) + (p.length - zerosL first)) (k : Int) = -1 := by rw [endN_add, h8]; exact hend
        exact endN_stay h9 (by omega)
  refine ⟨fun he => build (Or.inl he), fun hne hbad => ?_, fun e1 e2 e3 => build (Or.inr ⟨e1, e2, e3⟩)⟩
  by_cases hin : 0 ≤ e ∧ e < p.length
  · have hm : F.getD e.toNat 0 = (i : Int) + 1 := by omega
    rcases h4 e.toNat (by omega) with h7 | ⟨_, _, q, hq, hq2⟩
    · have := (h.low e.toNat (by omega)).2
      rw [← h7] at this
      omega
    · rw [Int.toNat_of_nonneg hin.1] at hq2
      have h8 : endN p (m - q) e = e := by rw [← hq2, ← endN_add, show q + (m - q) = m by omega, h2, hq2]
      rw [ends_back h2]
      exact not_ends_cycle (by omega) h8 hin.1
  · exact not_ends_out h2 hin hne
theorem treeB_iff (p : List Int) : treeB p = true ↔ (∀ i, i < p.length → endN p p.length (i : Int) = -1) ∧ (p.length = 0 ∨ (rootsL22 p p.length).length = 1) := by
  constructor
  · intro h
    refine ⟨fun i hi => tree_end h hi, ?_⟩
    unfold treeB at h
    rw [Bool.and_eq_true, Bool.or_eq_true, beq_iff_eq, beq_iff_eq] at h
    exact h.2
  · rintro ⟨h1, h2⟩
    unfold treeB
    rw [Bool.and_eq_true, Bool.or_eq_true, beq_iff_eq, beq_iff_eq, List.all_eq_true]
    refine ⟨fun i hi => ?_, h2⟩
    rw [List.mem_range] at hi
    rw [beq_iff_eq]
    obtain ⟨f, hf⟩ : ∃ f, p.length = f + 1 := ⟨p.length - 1, by omega⟩
    unfold lastUp upI
    have h3 := upL_end p f (i : Int) (by omega) (by omega)
    have h4 := h1 i hi
    rw [hf] at h4 ⊢
    rw [h3]
    exact h4
theorem markI_end {p : List Int} {first : List Int} (h : MarkI p p.length first) : ∀ i, i < p.length → endN p p.length (i : Int) = -1 := fun i hi =>
  endN_stay (h.ends i hi (h.seen i hi hi)) (Nat.sub_le _ _)
theorem treeB_not {p : List Int} {i : Nat} (hi : i < p.length) (h : ¬ Ends p i) : treeB p = false := by
  cases e : treeB p with
  | false => rfl
  | true => exact absurd ⟨_, ((treeB_iff p).1 e).1 i hi⟩ h
theorem roots_snoc (p : List Int) (i : Nat) (hi : i < p.length) : (rootsL22 p (i + 1)).length = (rootsL22 p i).length + if p[i] = -1 then 1 else 0 := by
  unfold rootsL22
  rw [List.range_succ, List.filter_append, List.length_append]
  have e : p[i]?.getD (-1) = p[i] := by rw [List.getElem?_eq_getElem hi]; rfl
  by_cases h : p[i] = -1
  · rw [h] at e
    rw [if_pos h]
    simp [e]
  · rw [if_neg h]
    simp [e, h]
end Go.Proofs.Ytpdkacfhnmfmaaa

/- Layer 23: whether a list of parents is a tree, by the program. Condition: no more than a thousand nodes. -/
namespace Go.Proofs.Ytpdkacfhnmfmaaa
open Go.RowKit
attribute [local go_sem] more_cell more_frozen more_more more_setCell more_of_drew more_of_drewN lt_more le_more past_cell past_cell2 past_frozen past_frozen2 past_setCell past_setCell2 mid_cell mid_frozen mid_setCell
attribute [local go_sem ↓] Go.wp_at_zero Go.wp_at_succ

theorem iV_made (n : Nat) : madeCells #[.int .i64 0] n = (iV (List.replicate n 0)).toArray := by
  apply Array.ext'
  rw [toList_madeCells_one]
  unfold iV
  simp
structure RfI (u : World) (g b n : Nat) (p : List Int) (i : Nat) (first : List Int) (wr : World) : Prop where
  grew : Grew u wr
  low : u.heap.size ≤ b
  ptr : Blok wr g 25 #[.slice (some ⟨b, 0, none⟩) n n]
  blk : Blok wr b 3 (iV first).toArray
  ne : b ≠ g
  mrk : MarkI p i first
def RgAt (u : World) (g b n : Nat) (p : List Int) (v3 v13 : Value) (wr : World) : Prop := ∃ (i : Nat) (first : List Int), i ≤ n ∧ v13 = .int .i64 i ∧ v3 = .int .i64 (rootsL22 p i).length ∧ RfI u g b n p i first wr
theorem RgAt.on {u : World} {g b n : Nat} {p : List Int} {v3 v13 : Value} {wr w' : World} (h : RgAt u g b n p v3 v13 wr) (k : Grew wr w') : RgAt u g b n p v3 v13 w' := by
  obtain ⟨i, F, h1, h2, h3, h4⟩ := h
  exact ⟨i, F, h1, h2, h3, h4.grew.trans k, h4.low, h4.ptr.grew k, h4.blk.grew k, h4.ne, h4.mrk⟩
set_option maxHeartbeats 4000000 in
set_option maxRecDepth 100000 in
theorem right23_any (p : List Int) (n : Nat) (hn : p.length = n) (hn1 : n ≤ 1000) (A : Option Addr) (k : Nat) (w : World) (rp : Row w A (iV p)) : Gives Try.prog 14 #[.slice A n k] w (.bool (treeB p)) := by
  have HCl : Hid (∀ g b h i first w', i < n → MarkI p i first → RiS w g b h n first i w' → Calls Try.prog 36 #[.slice A n k, .int .i64 i, .func (.func 37) #[] #[.pointer (some ⟨g, 0, none⟩), .pointer (some ⟨h, 0, none⟩)]] w' fun e w'' => e = .returned (.int .i64 (markS p ((i : Int) + 1) (n + 1) first i).2) ∧ RiS w g b h n (markS p ((i : Int) + 1) (n + 1) first i).1 i w'') := Lib.hid fun g b h i first w' hi hm hs =>
    climbright_any w g b h n hn1 i hi p hn A k rp (n + 1) first (by have := zerosL_le first; rw [hm.len, hn] at this; omega) i w' hs
  have HStep : Hid (∀ i first, i < n → MarkI p i first → _) := Lib.hid fun i first hi hm => markI_step (f := n + 1) hm (by omega) (by have := zerosL_le first; rw [hm.len, hn] at this; omega)
  have HNot : Hid (∀ i : Nat, i < n → ¬ Ends p i → treeB p = false) := Lib.hid fun i hi h => treeB_not (by omega) h
  have HRo : Hid (∀ i (hi : i < n), (rootsL22 p (i + 1)).length = (rootsL22 p i).length + if p.getD i 0 = -1 then 1 else 0) := Lib.hid fun i hi => by
    have h := roots_snoc p i (by omega)
    have e : p.getD i 0 = p[i]'(by omega) := by rw [List.getD_eq_getElem?_getD, List.getElem?_eq_getElem (by omega)]; rfl
    rw [e]
    exact h
  have HEnd : Hid (∀ first, MarkI p n first → treeB p = (decide ((rootsL22 p n).length = 1) || decide (n = 0))) := Lib.hid fun first hm => by
    subst hn
    have h := treeB_iff p
    have h1 := markI_end hm
    cases e : treeB p with
    | true =>
      rcases (h.1 e).2 with h2 | h2
      · simp [h2]
      · simp [h2]
    | false =>
      have h3 : ¬ (p.length = 0 ∨ (rootsL22 p p.length).length = 1) := fun h4 => by
        have := h.2 ⟨h1, h4⟩
        rw [this] at e
        cases e
      have a1 : ¬ (rootsL22 p p.length).length = 1 := fun x => h3 (Or.inr x)
      have a2 : ¬ p.length = 0 := fun x => h3 (Or.inl x)
      rw [decide_eq_false a1, decide_eq_false a2]
      rfl
  have HP : Hid (∀ j, j < n → ∃ b o, A = some ⟨b, o, none⟩ ∧ ∀ W, Grew w W → b < W.heap.size ∧ W.cell? ⟨b, o + j, none⟩ = some (.int .i64 (p.getD j 0))) := Lib.hid fun j hj => by
    obtain ⟨b, o, hA, hb, hc⟩ := rowI_at rp (show j < p.length by omega)
    have e : p.getD j 0 = p[j]'(by omega) := by rw [List.getD_eq_getElem?_getD, List.getElem?_eq_getElem (by omega)]; rfl
    rw [e]
    exact ⟨b, o, hA, fun W hW => ⟨Nat.lt_of_lt_of_le hb hW.size, (hW.cell (a := ⟨b, o + j, none⟩) hb).trans hc⟩⟩
  have HRl : Hid (∀ i, i ≤ n → (rootsL22 p i).length ≤ 1000) := Lib.hid fun i hi => by
    unfold rootsL22
    have := List.length_filter_le (fun i => p.getD i (-1) == -1) (List.range i)
    rw [List.length_range] at this
    omega
  have HI0 : Hid (RgAt w (w.heap.size + 1) w.heap.size n p (.int .i64 0) (.int .i64 0) ((w.alloc (.cells (madeCells #[.int .i64 0] n) 3)).alloc (.cells #[.slice (some ⟨w.heap.size, 0, none⟩) n n] 25))) := Lib.hid (by
    refine ⟨0, List.replicate n 0, Nat.zero_le _, rfl, rfl, ((Grew.refl w).alloc _).alloc _, Nat.le_refl _, Blok.new _ _ _ _ (by simp), ?_, by omega, ?_⟩
    · rw [← iV_made]
      exact (Blok.new _ _ _ _ rfl).alloc _
    · rw [← hn]
      exact markI_zero p)
  have HHn := Lib.hid hn
  clear rp hn
  generalize treeB p = tb at *
  obtain ⟨j0, hj, hj0, hj1, hj2⟩ := info_parts infoI
  have HJ := Lib.hid hj
  have HJ0 := Lib.hid hj0
  have HJ1 := Lib.hid hj1
  have HJ2 := Lib.hid hj2
  clear hj hj0 hj1 hj2
  unfold Gives
  go_enter Try.func14, Try.ntmps14
  go_wp2
  go_step3
  go_wp2_with (at_make; refine wpList_make_row _ rfl _ _ 25 rfl 3 j0 (.int .i64 0) Try.underlying25 HJ.out HJ0.out HJ1.out rfl _ _ n rfl rfl (by rw [HJ2.out]; omega) (by omega) ?_)
  have hgb : w.heap.size ≤ w.heap.size := Nat.le_refl _
  obtain ⟨b, hb⟩ : ∃ b, w.heap.size = b := ⟨_, rfl⟩
  obtain ⟨g, hg⟩ : ∃ g, w.heap.size + 1 = g := ⟨_, rfl⟩
  rw [hg, hb] at HI0
  have HBg : Hid (w.heap.size ≤ b ∧ b < g) := Lib.hid (by omega)
  obtain ⟨W0, hW0⟩ : ∃ W0, W0 = ((w.alloc (.cells (madeCells #[.int .i64 0] n) 3)).alloc (.cells #[.slice (some ⟨b, 0, none⟩) n n] 25)) := ⟨_, rfl⟩
  rw [← hW0] at HI0
  rw [hg, hb, ← hW0]
  clear hW0 hgb hb hg
  go_step3
  go_wp2
  go_loopw [3, 13] (fun v3 v13 wr => RgAt w g b n p v3 v13 wr) (fun _ i _ => n - (intOf i).toNat)
  case atStart => exact HI0.out
  case round =>
    obtain ⟨i, first, hi, rfl, rfl, hs⟩ := hrel
    have HS := Lib.hid hs
    have hrl := HRl.out i hi
    clear hs HI0
    by_cases hin : i < n
    · obtain ⟨c, o, rfl, hpc⟩ := HP.out i hin
      have HPc := Lib.hid hpc
      have HM := Lib.hid (HStep.out i first hin HS.out.mrk)
      have HRo1 := Lib.hid (HRo.out i hin)
      have HNo := Lib.hid (HNot.out i hin)
      obtain ⟨hc1, hc2⟩ := hpc wr HS.out.grew
      clear hpc HStep HRo HNot HEnd HP HRl
      obtain ⟨w1, hw1⟩ : ∃ w1, w1 = wr.alloc (.cells #[.int .i64 i] 3) := ⟨_, rfl⟩
      have HR1 : Hid (RiS w g b wr.heap.size n first i w1) := Lib.hid (by
        rw [hw1]
        exact ⟨HS.out.grew.alloc _, HS.out.low, by rw [HS.out.mrk.len, HHn.out], HS.out.ptr.alloc _, HS.out.blk.alloc _, Blok.new _ _ _ _ rfl, HS.out.ne, by have := HS.out.blk.lt; omega⟩)
      have HC1 := Lib.hid (HCl.out g b wr.heap.size i first w1 hin HS.out.mrk HR1.out)
      obtain ⟨r, hr⟩ : ∃ r, (rootsL22 p i).length = r := ⟨_, rfl⟩
      obtain ⟨r', hr'⟩ : ∃ r', (rootsL22 p (i + 1)).length = r' := ⟨_, rfl⟩
      rw [hr] at hrl HRo1 ⊢
      rw [hr'] at HRo1
      have HTo : Hid (∀ F W, RfI w g b n p (i + 1) F W → RgAt w g b n p (.int .i64 r') (.int .i64 ((i : Int) + 1)) W) := Lib.hid fun F W h => ⟨i + 1, F, by omega, by go_num, by rw [hr'], h⟩
      have HMk := Lib.hid (fun F W (hs : RiS w g b wr.heap.size n F i W) (hm : MarkI p (i + 1) F) => (⟨hs.grew, hs.low, hs.ptr, hs.blk, hs.ne1, hm⟩ : RfI w g b n p (i + 1) F W))
      have HR1g := Lib.hid HS.out.grew
      have HR1g := Lib.hid HS.out.grew
      have HR1g := Lib.hid HS.out.grew
      clear hr hr' HS HCl
      generalize hmk : markS p ((i : Int) + 1) (n + 1) first i = Fe at *
      obtain ⟨F, e⟩ := Fe
      simp only at HM HC1
      rw [HHn.out] at HM
      clear hmk
      clear hc1 hc2
      generalize p.getD i 0 = y at *
      obtain ⟨hc1, hc2⟩ := HPc.out wr HR1g.out
      go_upto_region 6 with fail
      rw [← hw1]
      clear hw1 hc1 hc2
      generalize wr.heap.size = h at *
      have n0 := HR1.out.num.cell 0
      have n1 := HR1.out.num.lt
      simp only [List.getElem?_toArray, List.getElem?_cons_zero] at n0
      by_cases hy : y = -1
      · subst hy
        have hrr : r' = r + 1 := by rw [HRo1.out, if_pos rfl]
        have ER : Hid ((r : Int) + 1 = (r' : Int)) := Lib.hid (by omega)
        clear HRo1 hrr
        go_upto_region 8 with fail
        rw [ER.out]
        clear ER hrl
        by_cases he1 : e = -1
        · subst he1
          have hM1 := HM.out.1 rfl
          have HM1 := Lib.hid hM1
          clear hM1 HM HNo
          go_wp2_with (go_at_call 36; (with_reducible refine HC1.out.mono ?_); rintro e2 w2 ⟨rfl, hs2⟩; have HS2 := Lib.hid hs2; clear hs2)
          exact ⟨HTo.out F _ (HMk.out F _ HS2.out HM1.out), by simp only [intOf]; omega⟩
        · have he1b : (e == -1) = false := beq_eq_false_iff_ne.2 he1
          by_cases hbad : e < 0 ∨ (n : Int) ≤ e ∨ F.getD e.toNat 0 = (i : Int) + 1
          · obtain rfl := HNo.out (HM.out.2.1 he1 hbad)
            have hn0 : ((n : Int) == 0) = false := by rw [beq_eq_false_iff_ne]; omega
            clear HM HNo HTo HMk
            go_upto_region 10 with (go_at_call 36; (with_reducible refine HC1.out.mono ?_); rintro e2 w2 ⟨rfl, hs2⟩; have HS2 := Lib.hid hs2; clear hs2)
            by_cases ha : e < 0
            · have hab : decide (e < 0) = true := decide_eq_true ha
              clear hbad
              refine wp_region_more (by kernel_rfl) (by kernel_rfl) ?_
              repeat (go_big_quiet_step ((fail)))
              refine wpQuiet_nil ?_
              rintro _ ⟨z, rfl⟩
              go_wp2
              try rw [Exit.noGoto_ret]
              go_ret
              exact ⟨rfl, HS2.out.grew.more z⟩
            · have hab : decide (e < 0) = false := decide_eq_false ha
              have ha0 : 0 ≤ e := by omega
              obtain ⟨q, rfl⟩ : ∃ q : Nat, e = (q : Int) := ⟨e.toNat, by omega⟩
              by_cases hb : (n : Int) ≤ (q : Int)
              · have hbb : decide ((n : Int) ≤ (q : Int)) = true := decide_eq_true hb
                clear hbad
                refine wp_region_more (by kernel_rfl) (by kernel_rfl) ?_
                repeat (go_big_quiet_step ((fail)))
                refine wpQuiet_nil ?_
                rintro _ ⟨z, rfl⟩
                go_wp2
                try rw [Exit.noGoto_ret]
                go_ret
                exact ⟨rfl, HS2.out.grew.more z⟩
              · have hbb : decide ((n : Int) ≤ (q : Int)) = false := decide_eq_false hb
                have hqn : q < n := by omega
                have hF : F.getD q 0 = (i : Int) + 1 := by
                  rcases hbad with h1 | h1 | h1
                  · exact absurd h1 ha
                  · exact absurd h1 hb
                  · rwa [Int.toNat_natCast] at h1
                have hql : q < F.length := by rw [HS2.out.len]; exact hqn
                have t0 := HS2.out.ptr.cell 0
                have t1 := HS2.out.ptr.lt
                have t2 := HS2.out.blk.cell q
                have t3 := HS2.out.blk.lt
                have t4 := HS2.out.num.cell 0
                have t5 := HS2.out.num.lt
                rw [iV_get2 F q hql] at t2
                have hFq : F[q] = (i : Int) + 1 := by
                  rw [List.getD_eq_getElem?_getD, List.getElem?_eq_getElem hql] at hF
                  exact hF
                rw [hFq] at t2
                simp only [List.getElem?_toArray, List.getElem?_cons_zero] at t0 t4
                have hwq : IntKind.i64.wrap ((i : Int) + 1) = (i : Int) + 1 := IntWalk.i64_in _ (by omega)
                have hqq : (q : Int) < (n : Int) := by omega
                clear hbad hF hFq
                refine wp_region_more (by kernel_rfl) (by kernel_rfl) ?_
                repeat (go_big_quiet_step ((fail)))
                refine wpQuiet_nil ?_
                rintro _ ⟨z, rfl⟩
                go_wp2
                try rw [Exit.noGoto_ret]
                go_ret
                exact ⟨rfl, HS2.out.grew.more z⟩
          · have ha : ¬ e < 0 := fun x => hbad (Or.inl x)
            have hb : ¬ (n : Int) ≤ e := fun x => hbad (Or.inr (Or.inl x))
            have hc : F.getD e.toNat 0 ≠ (i : Int) + 1 := fun x => hbad (Or.inr (Or.inr x))
            have hM1 := HM.out.2.2 (by omega) (by omega) hc
            have HM1 := Lib.hid hM1
            have hab : decide (e < 0) = false := decide_eq_false ha
            have ha0 : 0 ≤ e := by omega
            obtain ⟨q, rfl⟩ : ∃ q : Nat, e = (q : Int) := ⟨e.toNat, by omega⟩
            have hbb : decide ((n : Int) ≤ (q : Int)) = false := decide_eq_false hb
            have hbn : decide (n ≤ q) = false := decide_eq_false (by omega)
            have hqn : q < n := by omega
            rw [Int.toNat_natCast] at hc
            clear HM HNo hbad hM1
            go_upto_region 10 with (go_at_call 36; (with_reducible refine HC1.out.mono ?_); rintro e2 w2 ⟨rfl, hs2⟩; have HS2 := Lib.hid hs2; clear hs2)
            have hql : q < F.length := by rw [HS2.out.len]; exact hqn
            have t0 := HS2.out.ptr.cell 0
            have t1 := HS2.out.ptr.lt
            have t2 := HS2.out.blk.cell q
            have t3 := HS2.out.blk.lt
            have t4 := HS2.out.num.cell 0
            have t5 := HS2.out.num.lt
            rw [iV_get2 F q hql] at t2
            rw [List.getD_eq_getElem?_getD, List.getElem?_eq_getElem hql] at hc
            simp only [List.getElem?_toArray, List.getElem?_cons_zero] at t0 t4
            have hc' : ¬ F[q] = (i : Int) + 1 := hc
            clear hc
            generalize F[q] = y2 at *
            have hcb : (y2 == (i : Int) + 1) = false := beq_eq_false_iff_ne.2 hc'
            have hwq : IntKind.i64.wrap ((i : Int) + 1) = (i : Int) + 1 := IntWalk.i64_in _ (by omega)
            have hqq : (q : Int) < (n : Int) := by omega
            refine wp_region_more (by kernel_rfl) (by kernel_rfl) ?_
            repeat (go_big_quiet_step ((fail)))
            refine wpQuiet_nil ?_
            rintro _ ⟨z, rfl⟩
            go_wp2
            exact ⟨(HTo.out F _ (HMk.out F _ HS2.out HM1.out)).on (Grew.refl w2 |>.more z), by simp only [intOf]; omega⟩
      · have hyb : (y == -1) = false := beq_eq_false_iff_ne.2 hy
        have hrr : r' = r := by rw [HRo1.out, if_neg hy]; rfl
        subst hrr
        clear HRo1 hy
        go_upto_region 8 with fail
        clear hrl hyb
        by_cases he1 : e = -1
        · subst he1
          have hM1 := HM.out.1 rfl
          have HM1 := Lib.hid hM1
          clear hM1 HM HNo
          go_wp2_with (go_at_call 36; (with_reducible refine HC1.out.mono ?_); rintro e2 w2 ⟨rfl, hs2⟩; have HS2 := Lib.hid hs2; clear hs2)
          exact ⟨HTo.out F _ (HMk.out F _ HS2.out HM1.out), by simp only [intOf]; omega⟩
        · have he1b : (e == -1) = false := beq_eq_false_iff_ne.2 he1
          by_cases hbad : e < 0 ∨ (n : Int) ≤ e ∨ F.getD e.toNat 0 = (i : Int) + 1
          · obtain rfl := HNo.out (HM.out.2.1 he1 hbad)
            have hn0 : ((n : Int) == 0) = false := by rw [beq_eq_false_iff_ne]; omega
            clear HM HNo HTo HMk
            go_upto_region 10 with (go_at_call 36; (with_reducible refine HC1.out.mono ?_); rintro e2 w2 ⟨rfl, hs2⟩; have HS2 := Lib.hid hs2; clear hs2)
            by_cases ha : e < 0
            · have hab : decide (e < 0) = true := decide_eq_true ha
              clear hbad
              refine wp_region_more (by kernel_rfl) (by kernel_rfl) ?_
              repeat (go_big_quiet_step ((fail)))
              refine wpQuiet_nil ?_
              rintro _ ⟨z, rfl⟩
              go_wp2
              try rw [Exit.noGoto_ret]
              go_ret
              exact ⟨rfl, HS2.out.grew.more z⟩
            · have hab : decide (e < 0) = false := decide_eq_false ha
              have ha0 : 0 ≤ e := by omega
              obtain ⟨q, rfl⟩ : ∃ q : Nat, e = (q : Int) := ⟨e.toNat, by omega⟩
              by_cases hb : (n : Int) ≤ (q : Int)
              · have hbb : decide ((n : Int) ≤ (q : Int)) = true := decide_eq_true hb
                clear hbad
                refine wp_region_more (by kernel_rfl) (by kernel_rfl) ?_
                repeat (go_big_quiet_step ((fail)))
                refine wpQuiet_nil ?_
                rintro _ ⟨z, rfl⟩
                go_wp2
                try rw [Exit.noGoto_ret]
                go_ret
                exact ⟨rfl, HS2.out.grew.more z⟩
              · have hbb : decide ((n : Int) ≤ (q : Int)) = false := decide_eq_false hb
                have hqn : q < n := by omega
                have hF : F.getD q 0 = (i : Int) + 1 := by
                  rcases hbad with h1 | h1 | h1
                  · exact absurd h1 ha
                  · exact absurd h1 hb
                  · rwa [Int.toNat_natCast] at h1
                have hql : q < F.length := by rw [HS2.out.len]; exact hqn
                have t0 := HS2.out.ptr.cell 0
                have t1 := HS2.out.ptr.lt
                have t2 := HS2.out.blk.cell q
                have t3 := HS2.out.blk.lt
                have t4 := HS2.out.num.cell 0
                have t5 := HS2.out.num.lt
                rw [iV_get2 F q hql] at t2
                have hFq : F[q] = (i : Int) + 1 := by
                  rw [List.getD_eq_getElem?_getD, List.getElem?_eq_getElem hql] at hF
                  exact hF
                rw [hFq] at t2
                simp only [List.getElem?_toArray, List.getElem?_cons_zero] at t0 t4
                have hwq : IntKind.i64.wrap ((i : Int) + 1) = (i : Int) + 1 := IntWalk.i64_in _ (by omega)
                have hqq : (q : Int) < (n : Int) := by omega
                clear hbad hF hFq
                refine wp_region_more (by kernel_rfl) (by kernel_rfl) ?_
                repeat (go_big_quiet_step ((fail)))
                refine wpQuiet_nil ?_
                rintro _ ⟨z, rfl⟩
                go_wp2
                try rw [Exit.noGoto_ret]
                go_ret
                exact ⟨rfl, HS2.out.grew.more z⟩
          · have ha : ¬ e < 0 := fun x => hbad (Or.inl x)
            have hb : ¬ (n : Int) ≤ e := fun x => hbad (Or.inr (Or.inl x))
            have hc : F.getD e.toNat 0 ≠ (i : Int) + 1 := fun x => hbad (Or.inr (Or.inr x))
            have hM1 := HM.out.2.2 (by omega) (by omega) hc
            have HM1 := Lib.hid hM1
            have hab : decide (e < 0) = false := decide_eq_false ha
            have ha0 : 0 ≤ e := by omega
            obtain ⟨q, rfl⟩ : ∃ q : Nat, e = (q : Int) := ⟨e.toNat, by omega⟩
            have hbb : decide ((n : Int) ≤ (q : Int)) = false := decide_eq_false hb
            have hbn : decide (n ≤ q) = false := decide_eq_false (by omega)
            have hqn : q < n := by omega
            rw [Int.toNat_natCast] at hc
            clear HM HNo hbad hM1
            go_upto_region 10 with (go_at_call 36; (with_reducible refine HC1.out.mono ?_); rintro e2 w2 ⟨rfl, hs2⟩; have HS2 := Lib.hid hs2; clear hs2)
            have hql : q < F.length := by rw [HS2.out.len]; exact hqn
            have t0 := HS2.out.ptr.cell 0
            have t1 := HS2.out.ptr.lt
            have t2 := HS2.out.blk.cell q
            have t3 := HS2.out.blk.lt
            have t4 := HS2.out.num.cell 0
            have t5 := HS2.out.num.lt
            rw [iV_get2 F q hql] at t2
            rw [List.getD_eq_getElem?_getD, List.getElem?_eq_getElem hql] at hc
            simp only [List.getElem?_toArray, List.getElem?_cons_zero] at t0 t4
            have hc' : ¬ F[q] = (i : Int) + 1 := hc
            clear hc
            generalize F[q] = y2 at *
            have hcb : (y2 == (i : Int) + 1) = false := beq_eq_false_iff_ne.2 hc'
            have hwq : IntKind.i64.wrap ((i : Int) + 1) = (i : Int) + 1 := IntWalk.i64_in _ (by omega)
            have hqq : (q : Int) < (n : Int) := by omega
            refine wp_region_more (by kernel_rfl) (by kernel_rfl) ?_
            repeat (go_big_quiet_step ((fail)))
            refine wpQuiet_nil ?_
            rintro _ ⟨z, rfl⟩
            go_wp2
            exact ⟨(HTo.out F _ (HMk.out F _ HS2.out HM1.out)).on (Grew.refl w2 |>.more z), by simp only [intOf]; omega⟩
    · obtain rfl : i = n := by omega
      have hE := HEnd.out first HS.out.mrk
      have HG := Lib.hid HS.out.grew
      have HE := Lib.hid hE
      clear hE HStep HRo HNot HEnd HP HRl HS HCl
      generalize (rootsL22 p i).length = r at *
      by_cases hr1 : r = 1
      · subst hr1
        obtain rfl : tb = true := by rw [HE.out]; rfl
        clear HE
        go_wp2
        try rw [Exit.noGoto_ret]
        go_ret
        exact ⟨rfl, HG.out⟩
      · have hr1' : ¬ (r : Int) = 1 := by omega
        have hr1b : ((r : Int) == 1) = false := beq_eq_false_iff_ne.2 hr1'
        by_cases hi0 : i = 0
        · subst hi0
          obtain rfl : tb = true := by rw [HE.out]; simp
          clear HE
          go_wp2
          try rw [Exit.noGoto_ret]
          go_ret
          exact ⟨rfl, HG.out⟩
        · have hi0' : ¬ (i : Int) = 0 := by omega
          have hi0b : ((i : Int) == 0) = false := beq_eq_false_iff_ne.2 hi0'
          obtain rfl : tb = false := by rw [HE.out, decide_eq_false hr1, decide_eq_false hi0]; rfl
          clear HE
          go_wp2
          try rw [Exit.noGoto_ret]
          go_ret
          exact ⟨rfl, HG.out⟩
end Go.Proofs.Ytpdkacfhnmfmaaa

/- Layer 23: the root; the tree that is held, by the program. Condition: no more than a thousand nodes. -/
namespace Go.Proofs.Ytpdkacfhnmfmaaa
open Go.RowKit
attribute [local go_sem] more_cell more_frozen more_more more_setCell more_of_drew more_of_drewN lt_more le_more past_cell past_cell2 past_frozen past_frozen2 past_setCell past_setCell2 mid_cell mid_frozen mid_setCell
attribute [local go_sem ↓] Go.wp_at_zero Go.wp_at_succ

theorem rindex_any (p : List Int) (A : Option Addr) (k : Nat) (hl : p.length ≤ 1000000) (w : World) (ra : Row w A (iV p)) :
    Gives Try.prog 39 #[.slice A p.length k, .int .i64 (-1)] w (.int .i64 (rootZ p)) := by
  have RA := Lib.hid ra
  clear ra
  unfold Gives
  obtain ⟨fin, hfin⟩ : ∃ fin : Int, rootZ p = fin := ⟨_, rfl⟩
  have HF := Lib.hid hfin
  rw [hfin]
  clear hfin
  go_enter Try.func39, Try.ntmps39
  go_wp2
  go_loopw [8] (fun i wr => RtAt w p i wr) (fun i _ => p.length - (intOf i).toNat)
  case atStart => exact ⟨0, Nat.zero_le _, rfl, Grew.refl w, fun t ht => by omega⟩
  case round =>
    obtain ⟨j, hj, rfl, hg, hk⟩ := hrel
    have HG := Lib.hid hg
    have HK := Lib.hid hk
    clear hg hk
    by_cases h : j < p.length
    · obtain ⟨b, o, rfl, hb, hc⟩ := rowI_at (RA.out.grew HG.out) h
      have e2 : p.getD j 0 = p[j] := by rw [List.getD_eq_getElem?_getD, List.getElem?_eq_getElem h]; rfl
      have HS := Lib.hid (fun e => rootZ_some (p := p) h e HK.out)
      have HN : Hid ((p.getD j 0 == -1) = false → ∀ t, t < j + 1 → (p.getD t 0 == -1) = false) := Lib.hid fun h t ht => by
        by_cases e : t = j
        · subst e; exact h
        · exact HK.out t (by omega)
      rw [e2] at HS HN
      clear e2 HK
      generalize p[j] = x at *
      by_cases e : x = -1
      · obtain rfl : (j : Int) = fin := by rw [← HF.out]; exact (HS.out (by rw [beq_iff_eq]; exact e)).symm
        have e1 : ((-1 : Int) == x) = true := by simpa using e.symm
        clear HF HS HN e
        go_wp2
        go_ret
        exact ⟨rfl, HG.out⟩
      · have HN2 := Lib.hid (HN.out (beq_eq_false_iff_ne.2 e))
        have e1 : ((-1 : Int) == x) = false := by simpa using fun q => e q.symm
        clear HF HS HN e
        go_wp2
        exact ⟨⟨j + 1, by omega, by go_num, HG.out, HN2.out⟩, by simp only [intOf]; omega⟩
    · obtain rfl : j = p.length := by omega
      obtain rfl : (-1 : Int) = fin := by rw [← HF.out]; exact (rootZ_none HK.out).symm
      clear HF HK
      go_wp2
      go_ret
      exact ⟨rfl, HG.out⟩
/-- The tree that is held: the list, or none. -/
theorem tree23_any (p : List Int) (n : Nat) (hn : p.length = n) (hn1 : n ≤ 1000) (A : Option Addr) (k : Nat) (w : World) (rp : Row w A (iV p)) :
    ∃ A2 k2, (∀ W, Grew w W → Gives Try.prog 40 #[.slice A n k] W (.slice A2 (heldL (treeB p) p).length k2)) ∧ Row w A2 (iV (heldL (treeB p) p)) := by
  have h := fun W (hW : Grew w W) => right23_any p n hn hn1 A k W (rp.grew hW)
  cases e : treeB p with
  | true =>
    refine ⟨A, k, fun W hW => ?_, rp⟩
    have h1 := h W hW
    rw [e] at h1
    have h2 := tree_yes A n k W h1
    show Gives _ _ _ _ (.slice A p.length k)
    rw [hn]
    exact h2
  | false =>
    refine ⟨none, 0, fun W hW => ?_, Or.inl rfl⟩
    have h1 := h W hW
    rw [e] at h1
    exact tree_no A n k W h1
theorem root23_of (A : Option Addr) (n k : Nat) (p : List Int) (hp : p.length ≤ 1000) (A2 : Option Addr) (k2 : Nat) (w : World) (hT : Gives Try.prog 40 #[.slice A n k] w (.slice A2 p.length k2)) (rp : Row w A2 (iV p)) :
    Gives Try.prog 16 #[.slice A n k] w (.int .i64 (rootZ p)) := by
  have HT := Lib.hid hT
  have HI := Lib.hid (fun W (hW : Grew w W) => rindex_any p A2 k2 (by omega) W (rp.grew hW))
  clear hT rp
  generalize rootZ p = z at *
  unfold Gives
  go_enter Try.func16, Try.ntmps16
  go_wp2_with (first | (go_at_call 40; (with_reducible refine HT.out.grows.mono ?_); rintro e w6 ⟨rfl, hg6⟩; have HG6 := Lib.hid hg6; clear hg6) | (go_at_call 39; (with_reducible refine (HI.out _ HG6.out).grows.mono ?_); rintro e w7 ⟨rfl, hg7⟩; have HG7 := Lib.hid (HG6.out.trans hg7); clear hg7))
  go_ret
  exact ⟨rfl, HG7.out⟩
end Go.Proofs.Ytpdkacfhnmfmaaa

/- Layer 23: a tree with another root: the way up is turned: plain mathematics. No condition. -/
namespace Go.Proofs.Ytpdkacfhnmfmaaa

/-- Each node of a way gets the one before it as its parent. -/
def turnL (l : List Int) (bel : Int) : List Nat → List Int
  | [] => l
  | u :: us => turnL (l.set u bel) u us
def rootedL (p : List Int) (r : Int) : List Int := turnL p (-1) (wayN p p.length r)
theorem turnL_len : ∀ (ws : List Nat) (l : List Int) (bel : Int), (turnL l bel ws).length = l.length := by
  intro ws
  induction ws with
  | nil => intro l bel; rfl
  | cons u us ih => intro l bel; rw [turnL, ih, List.length_set]
theorem getD_set_ne {l : List Int} {u x : Nat} (h : u ≠ x) (v : Int) : (l.set u v).getD x 0 = l.getD x 0 := by
  rw [List.getD_eq_getElem?_getD, List.getElem?_set, if_neg h, List.getD_eq_getElem?_getD]
theorem getD_set_eq {l : List Int} {u : Nat} (h : u < l.length) (v : Int) : (l.set u v).getD u 0 = v := by
  rw [List.getD_eq_getElem?_getD, List.getElem?_set, if_pos rfl, if_pos h]
  rfl
theorem turnL_out {x : Nat} : ∀ (ws : List Nat) (l : List Int) (bel : Int), x ∉ ws → (turnL l bel ws).getD x 0 = l.getD x 0 := by
  intro ws
  induction ws with
  | nil => intro l bel _; rfl
  | cons u us ih =>
    intro l bel h
    rw [List.mem_cons, not_or] at h
    rw [turnL, ih _ _ h.2, getD_set_ne (fun e => h.1 e.symm)]
theorem turnL_head {u : Nat} {us : List Nat} {l : List Int} {bel : Int} (hu : u < l.length) (hn : u ∉ us) : (turnL l bel (u :: us)).getD u 0 = bel := by
  rw [turnL, turnL_out _ _ _ hn, getD_set_eq hu]
/-- A way in p: each one's parent is the next one's, the last one's is -1. -/
def Chain (p : List Int) : List Nat → Prop
  | [] => True
  | [u] => u < p.length ∧ p.getD u 0 = -1
  | u :: u' :: us => u < p.length ∧ p.getD u 0 = (u' : Int) ∧ Chain p (u' :: us)
theorem Chain.tail {p : List Int} {u : Nat} {us : List Nat} (h : Chain p (u :: us)) : Chain p us := by
  cases us with
  | nil => trivial
  | cons u' us => exact h.2.2
theorem Chain.low {p : List Int} : ∀ {ws : List Nat}, Chain p ws → ∀ u ∈ ws, u < p.length := by
  intro ws
  induction ws with
  | nil => intro _ u h; cases h
  | cons w ws ih =>
    intro h u hu
    rcases List.mem_cons.1 hu with e | hu
    · subst e
      cases ws with
      | nil => exact h.1
      | cons _ _ => exact h.1
    · exact ih h.tail u hu
/-- The way up of a node that ends. -/
theorem way_chain {p : List Int} : ∀ (f : Nat) (i : Int), endN p f i = -1 → Chain p (wayN p f i) := by
  intro f
  induction f with
  | zero => intro i _; trivial
  | succ f ih =>
    intro i h
    by_cases hin : 0 ≤ i ∧ i < p.length
    · rw [endN_in hin] at h
      have h1 := ih _ h
      rw [wayN, if_pos hin]
      have hl : i.toNat < p.length := by omega
      generalize hy : p.getD i.toNat 0 = y at *
      by_cases hy1 : 0 ≤ y ∧ y < p.length
      · cases f with
        | zero =>
          have h' : y = -1 := h
          omega
        | succ f =>
          rw [wayN, if_pos hy1] at h1 ⊢
          exact ⟨hl, by rw [hy]; omega, h1⟩
      · rw [endN_out hy1] at h
        rw [wayN_stop hy1]
        exact ⟨hl, by rw [hy]; exact h⟩
    · rw [wayN_stop hin]
      trivial
theorem wayN_mem {p : List Int} : ∀ (f : Nat) (i : Int) (x : Nat), x ∈ wayN p f i → ∃ j, endN p j i = (x : Int) ∧ j < f := by
  intro f
  induction f with
  | zero => intro i x h; cases h
  | succ f ih =>
    intro i x h
    by_cases hin : 0 ≤ i ∧ i < p.length
    · rw [wayN, if_pos hin] at h
      rcases List.mem_cons.1 h with e | h
      · exact ⟨0, by show i = _; omega, by omega⟩
      · obtain ⟨j, h1, h2⟩ := ih _ x h
        exact ⟨j + 1, by rw [endN_in hin]; exact h1, by omega⟩
    · rw [wayN_stop hin] at h
      cases h
/-- A way that ends holds no node twice. -/
theorem wayN_nodup {p : List Int} : ∀ (f : Nat) (i : Int), Ends p i → (wayN p f i).Nodup := by
  intro f
  induction f with
  | zero => intro i _; exact List.nodup_nil
  | succ f ih =>
    intro i h
    by_cases hin : 0 ≤ i ∧ i < p.length
    · have hs : endN p 1 i = p.getD i.toNat 0 := by rw [endN_in hin]; rfl
      rw [wayN, if_pos hin]
      refine List.nodup_cons.2 ⟨fun hm => ?_, ih _ ((ends_back hs).1 h)⟩
      obtain ⟨j, h1, _⟩ := wayN_mem f _ _ hm
      have h2 : endN p (1 + j) i = i := by rw [endN_add, hs, h1]; omega
      exact not_ends_cycle (by omega) h2 hin.1 h
    · rw [wayN_stop hin]
      exact List.nodup_nil
/-- What is summed over all nodes and their parents. -/
def sumP (f : Int → Int → Int) (l : List Int) : Int := ((List.range l.length).map fun i : Nat => f (i : Int) (l.getD i 0)).sum
theorem sum_change {g g' : Nat → Int} {u n : Nat} (hu : u < n) (h : ∀ x, x ≠ u → g' x = g x) : ((List.range n).map g').sum = ((List.range n).map g).sum - g u + g' u := by
  induction n with
  | zero => omega
  | succ n ih =>
    rw [List.range_succ, List.map_append, List.map_append, List.sum_append, List.sum_append]
    simp only [List.map_cons, List.map_nil, List.sum_cons, List.sum_nil]
    by_cases e : u = n
    · subst e
      have : ((List.range u).map g') = (List.range u).map g := List.map_congr_left fun x hx => h x (by have := List.mem_range.1 hx; omega)
      rw [this]
      omega
    · rw [ih (by omega), h n (fun e' => e e'.symm)]
      omega
theorem sumP_set (f : Int → Int → Int) {l : List Int} {u : Nat} (hu : u < l.length) (v : Int) : sumP f (l.set u v) = sumP f l - f u (l.getD u 0) + f u v := by
  unfold sumP
  rw [List.length_set, sum_change (g := fun i : Nat => f (i : Int) (l.getD i 0)) hu]
  · rw [getD_set_eq hu]
  · intro x hx
    rw [getD_set_ne (fun e => hx e.symm)]
/-- What is the same of two nodes either way round is summed to the same. -/
theorem sumP_turn {f : Int → Int → Int} (hs : ∀ i j, f i j = f j i) (h0 : ∀ i, f i (-1) = 0) {p : List Int} : ∀ (u : Nat) (us : List Nat) (l : List Int) (bel : Int), Chain p (u :: us) → (u :: us).Nodup → l.length = p.length → (∀ x ∈ u :: us, l.getD x 0 = p.getD x 0) →
    sumP f (turnL l bel (u :: us)) = sumP f l + f u bel := by
  intro u us
  induction us generalizing u with
  | nil =>
    intro l bel hc _ hl he
    obtain ⟨hu, hr⟩ := hc
    show sumP f (l.set u bel) = _
    rw [sumP_set f (by omega), he u (by simp), hr, h0]
    omega
  | cons u' us ih =>
    intro l bel hc hn hl he
    obtain ⟨hu, hr, hc'⟩ := hc
    rw [List.nodup_cons] at hn
    show sumP f (turnL (l.set u bel) u (u' :: us)) = _
    rw [ih u' (l.set u bel) u hc' hn.2 (by rw [List.length_set]; exact hl) (fun x hx => by
      rw [getD_set_ne (fun e => hn.1 (by rw [e]; exact hx))]
      exact he x (List.mem_cons_of_mem _ hx)), sumP_set f (by omega), he u (by simp), hr, hs u u']
    omega
/-- How many roots there are. -/
def isRoot (_ j : Int) : Int := if j = -1 then 1 else 0
theorem sumP_root {p : List Int} : ∀ (u : Nat) (us : List Nat) (l : List Int) (bel : Int), Chain p (u :: us) → (u :: us).Nodup → l.length = p.length → (∀ x ∈ u :: us, l.getD x 0 = p.getD x 0) →
    sumP isRoot (turnL l bel (u :: us)) = sumP isRoot l - 1 + isRoot 0 bel := by
  intro u us
  induction us generalizing u with
  | nil =>
    intro l bel hc _ hl he
    obtain ⟨hu, hr⟩ := hc
    show sumP isRoot (l.set u bel) = _
    rw [sumP_set isRoot (by omega), he u (by simp), hr]
    show _ - (if (-1 : Int) = -1 then (1 : Int) else 0) + isRoot 0 bel = _
    simp
  | cons u' us ih =>
    intro l bel hc hn hl he
    obtain ⟨hu, hr, hc'⟩ := hc
    rw [List.nodup_cons] at hn
    show sumP isRoot (turnL (l.set u bel) u (u' :: us)) = _
    rw [ih u' (l.set u bel) u hc' hn.2 (by rw [List.length_set]; exact hl) (fun x hx => by
      rw [getD_set_ne (fun e => hn.1 (by rw [e]; exact hx))]
      exact he x (List.mem_cons_of_mem _ hx)), sumP_set isRoot (by omega), he u (by simp), hr]
    have a1 : isRoot (u : Int) (u' : Int) = 0 := if_neg (by omega)
    have a2 : isRoot 0 (u : Int) = 0 := if_neg (by omega)
    have a3 : isRoot (u : Int) bel = isRoot 0 bel := rfl
    rw [a1, a2, a3]
    omega
/-- Each node of the way ends in what is turned. -/
theorem turn_ends : ∀ (ws : List Nat) (l : List Int) (bel : Int), ws.Nodup → (∀ u ∈ ws, u < l.length) → Ends (turnL l bel ws) bel → ∀ u ∈ ws, Ends (turnL l bel ws) u := by
  intro ws
  induction ws with
  | nil => intro l bel _ _ _ u hu; cases hu
  | cons w ws ih =>
    intro l bel hn hl hb u hu
    rw [List.nodup_cons] at hn
    have hw : Ends (turnL l bel (w :: ws)) w := by
      have h1 : endN (turnL l bel (w :: ws)) 1 (w : Int) = bel := by
        rw [endN_in ⟨by omega, by rw [turnL_len]; have := hl w (by simp); omega⟩]
        show (turnL l bel (w :: ws)).getD (w : Int).toNat 0 = bel
        rw [Int.toNat_natCast]
        exact turnL_head (hl w (by simp)) hn.1
      exact (ends_back h1).2 hb
    rcases List.mem_cons.1 hu with e | hu
    · subst e; exact hw
    · exact ih (l.set w bel) w hn.2 (fun x hx => by rw [List.length_set]; exact hl x (by simp [hx])) hw u hu
end Go.Proofs.Ytpdkacfhnmfmaaa

/- Layer 23: a tree with another root is a tree, with the same neighbours: plain mathematics. No condition. -/
namespace Go.Proofs.Ytpdkacfhnmfmaaa

/-- If each node ends at all, it ends within as many steps as there are nodes. -/
theorem ends_all {p : List Int} (h : ∀ i : Nat, i < p.length → Ends p i) : ∀ i, i < p.length → endN p p.length (i : Int) = -1 := by
  have H : ∀ i, i ≤ p.length → ∃ first, MarkI p i first := by
    intro i
    induction i with
    | zero => intro _; exact ⟨_, markI_zero p⟩
    | succ i ih =>
      intro hi
      obtain ⟨first, hm⟩ := ih (by omega)
      have hz := zerosL_le first
      rw [hm.len] at hz
      obtain ⟨h1, h2, h3⟩ := markI_step (f := p.length + 1) hm (by omega) (by omega)
      by_cases he : (markS p ((i : Int) + 1) (p.length + 1) first i).2 = -1
      · exact ⟨_, h1 he⟩
      · by_cases hb : (markS p ((i : Int) + 1) (p.length + 1) first i).2 < 0 ∨ (p.length : Int) ≤ (markS p ((i : Int) + 1) (p.length + 1) first i).2 ∨ (markS p ((i : Int) + 1) (p.length + 1) first i).1.getD (markS p ((i : Int) + 1) (p.length + 1) first i).2.toNat 0 = (i : Int) + 1
        · exact absurd (h i (by omega)) (h2 he hb)
        · exact ⟨_, h3 (by omega) (by omega) (fun e => hb (Or.inr (Or.inr e)))⟩
  obtain ⟨first, hm⟩ := H p.length (Nat.le_refl _)
  exact markI_end hm
theorem roots_sum (p : List Int) : ((rootsL22 p p.length).length : Int) = sumP isRoot p := by
  have H : ∀ m, m ≤ p.length → ((rootsL22 p m).length : Int) = ((List.range m).map fun i : Nat => isRoot (i : Int) (p.getD i 0)).sum := by
    intro m
    induction m with
    | zero => intro _; rfl
    | succ m ih =>
      intro hm
      have e : p.getD m 0 = p[m] := by rw [List.getD_eq_getElem?_getD, List.getElem?_eq_getElem (by omega)]; rfl
      rw [roots_snoc p m (by omega), List.range_succ, List.map_append, List.sum_append, ← ih (by omega)]
      simp only [List.map_cons, List.map_nil, List.sum_cons, List.sum_nil]
      rw [e]
      unfold isRoot
      split <;> simp
  exact H p.length (Nat.le_refl _)
theorem rooted_len (p : List Int) (r : Int) : (rootedL p r).length = p.length := turnL_len _ _ _
section
variable {p : List Int} {r : Nat} (ht : treeB p = true) (hr : r < p.length)
include ht hr
theorem rooted_way : ∃ us, wayN p p.length r = r :: us ∧ Chain p (r :: us) ∧ (r :: us).Nodup ∧ rootedL p r = turnL p (-1) (r :: us) := by
  have he := ((treeB_iff p).1 ht).1 r hr
  obtain ⟨n, hn⟩ : ∃ n, p.length = n + 1 := ⟨p.length - 1, by omega⟩
  have e : wayN p p.length r = r :: wayN p n (p.getD (r : Int).toNat 0) := by
    rw [hn, wayN, if_pos ⟨by omega, by omega⟩, Int.toNat_natCast]
  have h1 := way_chain p.length (r : Int) he
  have h2 := wayN_nodup p.length (r : Int) ⟨_, he⟩
  rw [e] at h1 h2
  exact ⟨_, e, h1, h2, by unfold rootedL; rw [e]⟩
theorem rooted_ends : ∀ i : Nat, i < p.length → Ends (rootedL p r) i := by
  obtain ⟨us, hw, hc, hn, hq⟩ := rooted_way ht hr
  rw [hq]
  have hq1 := turn_ends (r :: us) p (-1) hn hc.low ⟨0, rfl⟩
  have H : ∀ (f : Nat) (x : Nat), x < p.length → endN p f (x : Int) = -1 → Ends (turnL p (-1) (r :: us)) x := by
    intro f
    induction f with
    | zero =>
      intro x _ h
      have h' : (x : Int) = -1 := h
      omega
    | succ f ih =>
      intro x hx h
      by_cases hm : x ∈ r :: us
      · exact hq1 x hm
      · have e1 : endN (turnL p (-1) (r :: us)) 1 (x : Int) = p.getD x 0 := by
          rw [endN_in ⟨by omega, by rw [turnL_len]; omega⟩]
          show (turnL p (-1) (r :: us)).getD (x : Int).toNat 0 = _
          rw [Int.toNat_natCast, turnL_out _ _ _ hm]
        rw [endN_in ⟨by omega, by omega⟩, Int.toNat_natCast] at h
        rw [ends_back e1]
        generalize p.getD x 0 = y at *
        by_cases hy : 0 ≤ y ∧ y < p.length
        · have := ih y.toNat (by omega) (by rwa [Int.toNat_of_nonneg hy.1])
          rwa [Int.toNat_of_nonneg hy.1] at this
        · rw [endN_out hy] at h
          exact ⟨0, h⟩
  exact fun i hi => H p.length i hi (((treeB_iff p).1 ht).1 i hi)
theorem rooted_roots : (rootsL22 (rootedL p r) (rootedL p r).length).length = 1 := by
  obtain ⟨us, hw, hc, hn, hq⟩ := rooted_way ht hr
  have h1 := roots_sum (rootedL p r)
  have h2 := sumP_root r us p (-1) hc hn rfl (fun _ _ => rfl)
  have h3 := roots_sum p
  have h4 : (rootsL22 p p.length).length = 1 := by
    rcases ((treeB_iff p).1 ht).2 with h | h
    · omega
    · exact h
  rw [hq] at h1 ⊢
  have h5 : isRoot 0 (-1) = 1 := rfl
  rw [h2, h5, ← h3, h4] at h1
  omega
theorem rooted_tree : treeB (rootedL p r) = true := by
  have hl := rooted_len p r
  refine (treeB_iff _).2 ⟨ends_all fun i hi => rooted_ends ht hr i (by omega), Or.inr (rooted_roots ht hr)⟩
theorem rooted_root : rootZ (rootedL p r) = (r : Int) := by
  have hl := rooted_len p r
  have h1 := rooted_roots ht hr
  obtain ⟨us, hw, hc, hn, hq⟩ := rooted_way ht hr
  have hrr : (rootedL p r).getD r 0 = -1 := by
    rw [hq]
    exact turnL_head hr (List.nodup_cons.1 hn).1
  have hin : ∀ t, t < p.length → (rootedL p r).getD t 0 = -1 → t ∈ rootsL22 (rootedL p r) (rootedL p r).length := fun t ht' he => by
    unfold rootsL22
    rw [List.mem_filter, List.mem_range, hl]
    refine ⟨ht', ?_⟩
    rw [beq_iff_eq, List.getD_eq_getElem?_getD, List.getElem?_eq_getElem (by omega)]
    rw [List.getD_eq_getElem?_getD, List.getElem?_eq_getElem (by omega)] at he
    exact he
  refine rootZ_some (by omega) (by rw [beq_iff_eq]; exact hrr) fun t ht' => ?_
  rw [beq_eq_false_iff_ne]
  intro he
  have a1 := hin t (by omega) he
  have a2 := hin r hr hrr
  obtain ⟨a, ha⟩ := List.length_eq_one_iff.1 h1
  rw [ha, List.mem_singleton] at a1 a2
  omega
theorem rooted_sum {f : Int → Int → Int} (hs : ∀ i j, f i j = f j i) (h0 : ∀ i, f i (-1) = 0) : sumP f (rootedL p r) = sumP f p := by
  obtain ⟨us, hw, hc, hn, hq⟩ := rooted_way ht hr
  rw [hq, sumP_turn hs h0 r us p (-1) hc hn rfl (fun _ _ => rfl), h0]
  omega
end
theorem rooted_out {p : List Int} {r : Int} (h : ¬ (0 ≤ r ∧ r < p.length)) : rootedL p r = p := by
  unfold rootedL
  rw [wayN_stop h]
  rfl
theorem sum_pos {g : Nat → Int} (h : ∀ x, 0 ≤ g x) (n : Nat) : 0 ≤ ((List.range n).map g).sum ∧ (0 < ((List.range n).map g).sum ↔ ∃ x, x < n ∧ 0 < g x) := by
  induction n with
  | zero => exact ⟨Int.le_refl _, by simp⟩
  | succ n ih =>
    rw [List.range_succ, List.map_append, List.sum_append]
    simp only [List.map_cons, List.map_nil, List.sum_cons, List.sum_nil]
    have hn := h n
    refine ⟨by omega, ⟨fun hp => ?_, fun ⟨x, hx, hg⟩ => ?_⟩⟩
    · by_cases h1 : 0 < g n
      · exact ⟨n, by omega, h1⟩
      · obtain ⟨x, hx, hg⟩ := ih.2.1 (by omega)
        exact ⟨x, by omega, hg⟩
    · by_cases e : x = n
      · subst e
        omega
      · have := ih.2.2 ⟨x, by omega, hg⟩
        omega
/-- Is one of two nodes the other's parent? -/
def nearB (p : List Int) (a b : Nat) : Bool := decide (p.getD a 0 = (b : Int)) || decide (p.getD b 0 = (a : Int))
def nearF (a b : Nat) (i j : Int) : Int := if (i = a ∧ j = b) ∨ (i = b ∧ j = a) then 1 else 0
theorem near_sum {p : List Int} {a b : Nat} (ha : a < p.length) (hb : b < p.length) : nearB p a b = true ↔ 0 < sumP (nearF a b) p := by
  have h := (sum_pos (g := fun i : Nat => nearF a b (i : Int) (p.getD i 0)) (fun x => by unfold nearF; split <;> omega) p.length).2
  unfold nearB sumP
  rw [h, Bool.or_eq_true, decide_eq_true_iff, decide_eq_true_iff]
  constructor
  · rintro (e | e)
    · exact ⟨a, ha, by show 0 < nearF a b _ _; unfold nearF; rw [if_pos (Or.inl ⟨rfl, e⟩)]; decide⟩
    · exact ⟨b, hb, by show 0 < nearF a b _ _; unfold nearF; rw [if_pos (Or.inr ⟨rfl, e⟩)]; decide⟩
  · rintro ⟨x, hx, hg⟩
    have hg' : 0 < nearF a b (x : Int) (p.getD x 0) := hg
    unfold nearF at hg'
    split at hg'
    · rename_i hc
      rcases hc with ⟨e1, e2⟩ | ⟨e1, e2⟩
      · have : x = a := by omega
        subst this
        exact Or.inl e2
      · have : x = b := by omega
        subst this
        exact Or.inr e2
    · omega
theorem rooted_near {p : List Int} {r : Nat} (ht : treeB p = true) (hr : r < p.length) {a b : Nat} (ha : a < p.length) (hb : b < p.length) : nearB (rootedL p r) a b = nearB p a b := by
  have hl := rooted_len p r
  rw [Bool.eq_iff_iff, near_sum (by omega) (by omega), near_sum ha hb, rooted_sum ht hr]
  · intro i j
    unfold nearF
    by_cases h1 : (i = a ∧ j = b) ∨ (i = b ∧ j = a)
    · rw [if_pos h1, if_pos (by rcases h1 with ⟨x, y⟩ | ⟨x, y⟩; exact Or.inr ⟨y, x⟩; exact Or.inl ⟨y, x⟩)]
    · rw [if_neg h1, if_neg (by rintro (⟨x, y⟩ | ⟨x, y⟩); exact h1 (Or.inr ⟨y, x⟩); exact h1 (Or.inl ⟨y, x⟩))]
  · intro i
    exact if_neg (by rintro (⟨_, y⟩ | ⟨_, y⟩) <;> omega)
/-- Is an edge with v without a parent that has it? -/
def topB (h : List (List Int)) (p : List Int) (v : Int) (i : Nat) : Bool := decide (v ∈ h.getD i []) && !(decide (0 ≤ p.getD i 0) && decide (v ∈ h.getD (p.getD i 0).toNat []))
def topsM (h : List (List Int)) (p : List Int) (v : Int) (m : Nat) : Nat := ((List.range m).filter (topB h p v)).length
def bothF (h : List (List Int)) (v i j : Int) : Int := if (0 ≤ i ∧ v ∈ h.getD i.toNat []) ∧ (0 ≤ j ∧ v ∈ h.getD j.toNat []) then 1 else 0
theorem tops_sum (h : List (List Int)) (p : List Int) (v : Int) : ∀ m, (topsM h p v m : Int) = ((List.range m).map fun i : Nat => if v ∈ h.getD i [] then (1 : Int) else 0).sum - ((List.range m).map fun i : Nat => bothF h v (i : Int) (p.getD i 0)).sum := by
  intro m
  induction m with
  | zero => rfl
  | succ m ih =>
    unfold topsM at ih ⊢
    rw [List.range_succ, List.filter_append, List.length_append, List.map_append, List.map_append, List.sum_append, List.sum_append]
    simp only [List.map_cons, List.map_nil, List.sum_cons, List.sum_nil]
    have e : (([m].filter (topB h p v)).length : Int) = (if v ∈ h.getD m [] then (1 : Int) else 0) - bothF h v (m : Int) (p.getD m 0) := by
      unfold bothF topB
      rw [Int.toNat_natCast]
      by_cases h1 : v ∈ h.getD m []
      · by_cases h2 : 0 ≤ p.getD m 0 ∧ v ∈ h.getD (p.getD m 0).toNat []
        · rw [if_pos h1, if_pos ⟨⟨by omega, h1⟩, h2⟩, List.filter_cons, decide_eq_true h1, decide_eq_true h2.1, decide_eq_true h2.2]
          rfl
        · rw [if_pos h1, if_neg (fun x => h2 x.2), List.filter_cons, decide_eq_true h1]
          have : (decide (0 ≤ p.getD m 0) && decide (v ∈ h.getD (p.getD m 0).toNat [])) = false := by
            rw [← Bool.decide_and]
            exact decide_eq_false h2
          rw [this]
          rfl
      · rw [if_neg h1, if_neg (fun x => h1 x.1.2), List.filter_cons, decide_eq_false h1]
        rfl
    push_cast
    omega
theorem rooted_tops {p : List Int} {r : Nat} (ht : treeB p = true) (hr : r < p.length) (h : List (List Int)) (v : Int) : topsM h (rootedL p r) v p.length = topsM h p v p.length := by
  have h1 := tops_sum h (rootedL p r) v p.length
  have h2 := tops_sum h p v p.length
  have h3 := rooted_sum ht hr (f := bothF h v) (fun i j => by
    unfold bothF
    by_cases h1 : (0 ≤ i ∧ v ∈ h.getD i.toNat []) ∧ (0 ≤ j ∧ v ∈ h.getD j.toNat [])
    · rw [if_pos h1, if_pos ⟨h1.2, h1.1⟩]
    · rw [if_neg h1, if_neg (fun x => h1 ⟨x.2, x.1⟩)]) (fun i => if_neg (fun x => by have := x.2.1; omega))
  unfold sumP at h3
  rw [rooted_len p r] at h3
  rw [h3] at h1
  omega
def checkB (h : List (List Int)) (p : List Int) : Bool := (decide (h.length = p.length) && treeB p) && (setI h.flatten).all fun v => topsM h p v p.length == 1
theorem rooted_check {p : List Int} {r : Nat} (ht : treeB p = true) (hr : r < p.length) (h : List (List Int)) : checkB h (rootedL p r) = checkB h p := by
  unfold checkB
  rw [rooted_tree ht hr, rooted_len p r, ht]
  congr 2
  funext v
  rw [rooted_tops ht hr]
end Go.Proofs.Ytpdkacfhnmfmaaa

/- Layer 23: another root, by the program. Condition: no more than a thousand nodes. -/
namespace Go.Proofs.Ytpdkacfhnmfmaaa
open Go.RowKit
attribute [local go_sem] more_cell more_frozen more_more more_setCell more_of_drew more_of_drewN lt_more le_more past_cell past_cell2 past_frozen past_frozen2 past_setCell past_setCell2 mid_cell mid_frozen mid_setCell
attribute [local go_sem ↓] Go.wp_at_zero Go.wp_at_succ

/-- A row of one's own: one number is set. -/
theorem own_setI {w : World} {base n c : Nat} {A : Option Addr} {l : List Int} (h : w.ownsRow base 3 1 (.slice A n c) n (iV l)) {k : Nat} (hk : k < n) (v : Int) :
    ∃ b, A = some ⟨b, 0, none⟩ ∧ base ≤ b ∧ b < w.heap.size ∧ (∃ x, w.cell? ⟨b, k, none⟩ = some x) ∧ w.frozen? ⟨b, k, none⟩ = false ∧ (w.setCell ⟨b, k, none⟩ (.int .i64 v)).ownsRow base 3 1 (.slice A n c) n (iV (l.set k v)) ∧ ∀ g t cs, Blok w g t cs → t ≠ 3 → Blok (w.setCell ⟨b, k, none⟩ (.int .i64 v)) g t cs := by
  obtain ⟨hl, h | ⟨b, cap, cur, hv, hb, hh, hn, hcap, hsz, ht⟩⟩ := h
  · obtain ⟨_, h0⟩ := h
    omega
  · injection hv with h1 h2 h3
    subst h1 h3
    have hB : Blok w b 3 cur := hh
    have hkc : k < cur.size := by rw [hsz, Nat.mul_one]; omega
    refine ⟨b, rfl, hb, hB.lt, ⟨cur[k], by rw [hB.cell]; exact Array.getElem?_eq_getElem hkc⟩, hB.thaw k, ⟨?_, Or.inr ⟨b, _, _, rfl, hb, hB.set k (.int .i64 v), hn, hcap, by rw [Array.size_setIfInBounds]; exact hsz, ?_⟩⟩, fun g t cs hg hne => hg.far (fun e => ?_) _⟩
    · rw [hl.symm]
      unfold iV
      simp
    · rw [Array.toList_setIfInBounds, List.take_set, ht]
      unfold iV
      rw [List.map_set]
    · have e' : g = b := e
      subst e'
      unfold Blok at hg hB
      rw [hg] at hB
      injection hB with hB
      injection hB with _ hB _
      exact hne hB
theorem wayN_go {p : List Int} {i : Int} (h : 0 ≤ i ∧ i < p.length) (f : Nat) : wayN p (f + 1) i = i.toNat :: wayN p f (p.getD i.toNat 0) := by
  rw [wayN, if_pos h]
theorem wayN_more (p : List Int) : ∀ (K : Nat) (i : Int), ¬ (0 ≤ endN p K i ∧ endN p K i < p.length) → wayN p (K + 1) i = wayN p K i := by
  intro K
  induction K with
  | zero =>
    intro i h
    rw [wayN_stop (show ¬ (0 ≤ i ∧ i < p.length) from h), wayN_stop (show ¬ (0 ≤ i ∧ i < p.length) from h)]
  | succ K ih =>
    intro i h
    by_cases hi : 0 ≤ i ∧ i < p.length
    · rw [wayN_go hi, wayN_go hi]
      rw [endN, if_pos hi] at h
      rw [ih _ h]
    · rw [wayN_stop hi, wayN_stop hi]
/-- What is turned so far, in a row of one's own behind a pointer; and the node below. -/
structure RoS (u : World) (g h : Nat) (n : Nat) (l : List Int) (bel : Int) (wr : World) : Prop where
  grew : Grew u wr
  lowg : u.heap.size ≤ g
  lowh : u.heap.size ≤ h
  own : ∃ A c, Blok wr g 25 #[.slice A n c] ∧ wr.ownsRow u.heap.size 3 1 (.slice A n c) n (iV l) ∧ ∀ b, A = some ⟨b, 0, none⟩ → b ≠ h
  num : Blok wr h 3 #[.int .i64 bel]
theorem RoS.on {u wr w' : World} {g h n : Nat} {l : List Int} {bel : Int} (s : RoS u g h n l bel wr) (k : Grew wr w') : RoS u g h n l bel w' := by
  obtain ⟨A, c, h3, h4, h6⟩ := s.own
  exact ⟨s.grew.trans k, s.lowg, s.lowh, ⟨A, c, h3.grew k, own_grewU h4 k, h6⟩, s.num.grew k⟩
theorem rooted1_any (u : World) (g h n : Nat) (l : List Int) (bel : Int) (z : Nat) (hz : z < n) (w : World) (hs : RoS u g h n l bel w) :
    Calls Try.prog 50 #[.int .i64 z, .pointer (some ⟨h, 0, none⟩), .pointer (some ⟨g, 0, none⟩)] w fun e w' => e = .returned (.bool true) ∧ RoS u g h n (l.set z bel) z w' := by
  have HS := Lib.hid hs
  obtain ⟨A, c, hb, ho, hne⟩ := hs.own
  obtain ⟨b, rfl, hbl, hblt, ⟨x, hx⟩, hfz, ho2, hk⟩ := own_setI ho hz bel
  have hbh := hne b rfl
  have hgh : g ≠ h := fun e => by
    have h1 := hs.num
    have h2 := hb
    subst e
    unfold Blok at h1 h2
    rw [h1] at h2
    injection h2 with h2
    injection h2 with _ h2 _
    exact absurd h2 (by decide)
  have g2 := hk g _ _ hb (by decide)
  have n2 : Blok (w.setCell ⟨b, z, none⟩ (.int .i64 bel)) h 3 #[.int .i64 bel] := hs.num.far (fun e => hbh e.symm) _
  have HF : Hid (RoS u g h n (l.set z bel) z ((w.setCell ⟨b, z, none⟩ (.int .i64 bel)).setCell ⟨h, 0, none⟩ (.int .i64 z))) := Lib.hid (by
    refine ⟨Grew.setCell (Grew.setCell HS.out.grew (a := ⟨b, z, none⟩) hbl _) (a := ⟨h, 0, none⟩) HS.out.lowh _, HS.out.lowg, HS.out.lowh, ⟨_, c, g2.far (fun e => hgh e) _, own_aside2 ho2 (fun q hq => ?_) _, hne⟩, ?_⟩
    · injection hq with hq
      rw [← hq]
      exact hbh
    · have := n2.set 0 (.int .i64 z)
      simpa using this)
  have t0 := hb.cell 0
  have t1 := hb.lt
  have t2 := hs.num.cell 0
  have t3 := hs.num.lt
  have t4 := n2.cell 0
  have t5 := n2.thaw 0
  have t6 := n2.lt
  simp only [List.getElem?_toArray, List.getElem?_cons_zero] at t0 t2 t4
  have hzn : (z : Int) < (n : Int) := by omega
  have hbh' : h ≠ b := fun e => hbh e.symm
  clear hs hb ho hne ho2 hk g2 n2 HS
  go_enter Try.func50, Try.ntmps50
  go_wp2
  go_ret
  exact ⟨rfl, HF.out⟩
def RoAt (u : World) (g h n : Nat) (p : List Int) (fin : List Int) (x1 : Value) (wr : World) : Prop := ∃ (i : Int) (l : List Int) (bel : Int), x1 = .int .i64 i ∧ RoS u g h n l bel wr ∧ turnL l bel (wayN p n i) = fin
set_option maxHeartbeats 1000000 in
theorem climbroot_any (u : World) (g h n : Nat) (p : List Int) (hp : p.length = n) (A2 : Option Addr) (k2 : Nat) (rp : Row u A2 (iV p)) (hend : ∀ i, ¬ (0 ≤ endN p n i ∧ endN p n i < p.length)) (i0 : Int) (l : List Int) (bel : Int) (w : World) (hs : RoS u g h n l bel w) :
    Calls Try.prog 36 #[.slice A2 n k2, .int .i64 i0, .func (.func 50) #[] #[.pointer (some ⟨h, 0, none⟩), .pointer (some ⟨g, 0, none⟩)]] w fun e w' => (∃ v, e = .returned v) ∧ ∃ bel', RoS u g h n (turnL l bel (wayN p n i0)) bel' w' := by
  obtain ⟨fin, hfin⟩ : ∃ fin, turnL l bel (wayN p n i0) = fin := ⟨_, rfl⟩
  have H0 : Hid (RoAt u g h n p fin (.int .i64 i0) w) := Lib.hid ⟨i0, l, bel, rfl, hs, hfin⟩
  have RP := Lib.hid rp
  have HE := Lib.hid hend
  have HPn := Lib.hid hp
  rw [hfin]
  clear rp hs hend hfin hp
  go_enter Try.func36, Try.ntmps36
  go_wp2
  go_loopw [1] (fun x wr => RoAt u g h n p fin x wr) (fun x _ => depN p n (intOf x))
  case atStart => exact H0.out
  case round =>
    obtain ⟨i, l, bel, rfl, hs, hfin⟩ := hrel
    have HS := Lib.hid hs
    have HF := Lib.hid hfin
    clear hs hfin H0
    by_cases h0 : 0 ≤ i
    · obtain ⟨z, rfl⟩ : ∃ z : Nat, i = (z : Int) := ⟨i.toNat, by omega⟩
      have e0 : decide ((0 : Int) ≤ (z : Int)) = true := decide_eq_true h0
      by_cases h1 : z < n
      · have e1 : decide ((z : Int) < (n : Int)) = true := decide_eq_true (by omega)
        have hzp : z < p.length := by rw [HPn.out]; exact h1
        have hin : 0 ≤ (z : Int) ∧ (z : Int) < p.length := ⟨h0, by omega⟩
        obtain ⟨b2, o2, rfl, hb2, hc2⟩ := rowI_at RP.out hzp
        have HR := Lib.hid (fun W (hW : Grew u W) => And.intro (Nat.lt_of_lt_of_le hb2 hW.size) ((hW.cell (a := ⟨b2, o2 + z, none⟩) hb2).trans hc2))
        have eg : p.getD z 0 = p[z] := by rw [List.getD_eq_getElem?_getD, List.getElem?_eq_getElem hzp]; rfl
        have hw := wayN_more p n (z : Int) (HE.out z)
        have hd := depN_more p n (z : Int) (HE.out z)
        rw [wayN_go hin, Int.toNat_natCast, eg] at hw
        rw [depN_go hin, Int.toNat_natCast, eg] at hd
        have HF2 : Hid (turnL (l.set z bel) z (wayN p n p[z]) = fin) := Lib.hid (by rw [← HF.out, ← hw]; rfl)
        have HD := Lib.hid hd
        have HC := Lib.hid (rooted1_any u g h n l bel z h1 _ HS.out)
        clear hw hd eg HF hb2 hc2
        generalize p[z] = y at *
        go_wp2_with (go_at_call 50; (with_reducible refine HC.out.mono ?_); rintro e w6 ⟨rfl, hs6⟩; have HS6 := Lib.hid hs6; obtain ⟨hb2, hc2⟩ := HR.out _ hs6.grew; clear hs6)
        exact ⟨⟨y, _, _, rfl, HS6.out, HF2.out⟩, by show depN p n y < depN p n (z : Int); have := HD.out; omega⟩
      · have e1 : decide ((z : Int) < (n : Int)) = false := decide_eq_false (by omega)
        have h1' : (n : Int) ≤ (z : Int) := by omega
        have hout : ¬ (0 ≤ (z : Int) ∧ (z : Int) < p.length) := by rw [HPn.out]; omega
        obtain rfl : l = fin := by rw [← HF.out, wayN_stop hout]; rfl
        clear HF h1 hout
        go_wp2
        go_ret
        exact ⟨⟨_, rfl⟩, _, HS.out⟩
    · have e0 : decide ((0 : Int) ≤ i) = false := decide_eq_false h0
      have h0' : i < 0 := by omega
      have hout : ¬ (0 ≤ i ∧ i < p.length) := fun x => h0 x.1
      obtain rfl : l = fin := by rw [← HF.out, wayN_stop hout]; rfl
      clear HF h0 hout
      go_wp2
      go_ret
      exact ⟨⟨_, rfl⟩, _, HS.out⟩
end Go.Proofs.Ytpdkacfhnmfmaaa

/- Layer 23: the same tree with another root, by the program. Condition: no more than a thousand nodes. -/
namespace Go.Proofs.Ytpdkacfhnmfmaaa
open Go.RowKit
attribute [local go_sem] more_cell more_frozen more_more more_setCell more_of_drew more_of_drewN lt_more le_more past_cell past_cell2 past_frozen past_frozen2 past_setCell past_setCell2 mid_cell mid_frozen mid_setCell
attribute [local go_sem ↓] Go.wp_at_zero Go.wp_at_succ

/-- A list that comes back in a row of its own. -/
def LisF (w : World) (l : List Int) (e : Ending) (w' : World) : Prop := ∃ A c, e = .returned (.slice A l.length c) ∧ Grew w w' ∧ TRow w.heap.size w' 3 A (iV l)
set_option maxHeartbeats 2000000 in
theorem rooted23_any (ps : List Int) (n : Nat) (hn : ps.length = n) (hn1 : n ≤ 1000) (A : Option Addr) (k : Nat) (r : Int) (w : World) (rp : Row w A (iV ps)) :
    Calls Try.prog 27 #[.slice A n k, .int .i64 r] w (LisF w (rootedL (heldL (treeB ps) ps) r)) := by
  obtain ⟨A2, k2, hT, rp2⟩ := tree23_any ps n hn hn1 A k w rp
  have hend := held_end ps
  have hml := heldL_len (treeB ps) ps
  have hrl := rooted_len (heldL (treeB ps) ps) r
  have hru : rootedL (heldL (treeB ps) ps) r = turnL (heldL (treeB ps) ps) (-1) (wayN (heldL (treeB ps) ps) (heldL (treeB ps) ps).length r) := rfl
  have HT := Lib.hid hT
  have RP2 := Lib.hid rp2
  generalize heldL (treeB ps) ps = p at *
  obtain ⟨m, hm⟩ : ∃ m, p.length = m := ⟨_, rfl⟩
  rw [hm] at HT hend hml hrl hru
  have HM := Lib.hid hm
  have HEnd := Lib.hid hend
  have hm1 : m ≤ 1000 := by omega
  have HCn := Lib.hid (fun W (hW : Grew w W) => clone_ints p (by omega) A2 k2 W (rp2.grew hW))
  rw [hm] at HCn
  have HRl := Lib.hid hrl
  have HRu := Lib.hid hru
  clear hT rp2 hend hrl hru hm rp hml hn
  go_enter Try.func27, Try.ntmps27
  go_wp2_with fail
  refine (HT.out w (Grew.refl w)).grows.mono ?_
  rintro e w1 ⟨rfl, hg1⟩
  have HG1 := Lib.hid hg1
  clear hg1
  go_wp2_with fail
  refine (HCn.out w1 HG1.out).mono ?_
  rintro e w2 ⟨B, c, rfl, hg2, ho2⟩
  rw [HM.out] at ho2 ⊢
  have HG2 := Lib.hid (HG1.out.trans hg2)
  have HO2 := Lib.hid (own_le ho2 HG1.out.size)
  have HOl := Lib.hid (own_lt ho2)
  clear hg2 ho2
  go_upto_region 3 with fail
  obtain ⟨w3, hw3⟩ : ∃ w3, w3 = (w2.alloc (.cells #[.slice B m c] 25)).alloc (.cells #[.int .i64 (-1)] 3) := ⟨_, rfl⟩
  have hsz := HG2.out.size
  have HS3 : Hid (RoS w w2.heap.size (w2.heap.size + 1) m p (-1) w3) := Lib.hid (by
    rw [hw3]
    exact ⟨(HG2.out.alloc _).alloc _, hsz, by omega, ⟨B, c, (Blok.new _ _ _ _ rfl).alloc _, own_alloc (own_alloc HO2.out _) _, fun b hb => by subst hb; have := HOl.out b rfl; omega⟩, Blok.new _ _ _ _ (by simp)⟩)
  rw [← hw3]
  clear hw3 HO2 HOl
  have HT3 := Lib.hid (HT.out _ HS3.out.grew)
  have HC3 := Lib.hid (fun W (h : RoS w w2.heap.size (w2.heap.size + 1) m p (-1) W) => climbroot_any w w2.heap.size (w2.heap.size + 1) m p HM.out A2 k2 RP2.out (by rw [HM.out]; exact HEnd.out) r p (-1) W h)
  rw [← HRu.out] at HC3
  generalize hg : w2.heap.size = g at *
  generalize rootedL p r = q at *
  clear hg HT HCn HRu
  go_wp2_with fail
  refine HT3.out.grows.mono ?_
  rintro e w4 ⟨rfl, hg4⟩
  have HS4 := Lib.hid (HS3.out.on hg4)
  clear hg4
  go_wp2_with fail
  refine (HC3.out w4 HS4.out).mono ?_
  rintro e w5 ⟨⟨v, rfl⟩, bel', hs5⟩
  obtain ⟨D, d, hb5, ho5, _⟩ := hs5.own
  have t0 := hb5.cell 0
  have t1 := hb5.lt
  simp only [List.getElem?_toArray, List.getElem?_cons_zero] at t0
  have HF : Hid (LisF w q (.returned (.slice D m d)) w5) := Lib.hid ⟨D, d, by rw [HRl.out], hs5.grew, TRow.own ho5⟩
  clear hs5 hb5 ho5
  go_wp2
  go_ret
  exact HF.out
end Go.Proofs.Ytpdkacfhnmfmaaa

/- Maps of one's own from numbers to counts. Condition: numbers and counts that are numbers of the machine. -/
namespace Go.Proofs.Ytpdkacfhnmfmaaa
open Go.RowKit Go.Maps

/-- Block b counts: each number x so often as f says; no more than c entries were ever put. -/
def MapN (w : World) (b c : Nat) (f : Int → Nat) : Prop := ∃ (n : Nat) (D : DataW Unit), n ≤ c ∧ w.ownsMap Try.prog 3 (plainElem Try.prog 3) b n D ∧ ∀ x, wfI x → D.atKey (.int .i64 x) (.lit (.int .i64 0)) = .lit (.int .i64 (f x))
theorem MapN.kept {w w' : World} {b c : Nat} {f : Int → Nat} {row : Option Nat} (h : MapN w b c f) (g : w.grownBy w' row) (hr : some b ≠ row) : MapN w' b c f := by
  obtain ⟨n, D, hn, h, k⟩ := h
  exact ⟨n, D, hn, h.kept g hr, k⟩
theorem grownBy_grewN {w w' : World} (g : Grew w w') : w.grownBy w' none := by
  have hb := g.below
  exact ⟨hb.os, hb.tape, hb.output, hb.size, fun i hi _ => hb.block i hi⟩
theorem MapN.grew {w w' : World} {b c : Nat} {f : Int → Nat} (h : MapN w b c f) (g : Grew w w') : MapN w' b c f := h.kept (grownBy_grewN g) (by simp)
theorem MapN.lt {w : World} {b c : Nat} {f : Int → Nat} (h : MapN w b c f) : b < w.heap.size := by
  obtain ⟨n, D, _, h, _⟩ := h
  exact h.lt
theorem MapN.congr {w : World} {b c : Nat} {f f' : Int → Nat} (h : MapN w b c f) (e : ∀ x, f x = f' x) : MapN w b c f' := by
  obtain ⟨n, D, hn, h, k⟩ := h
  exact ⟨n, D, hn, h, fun x hx => by rw [k x hx, e]⟩
theorem MapN.up {w : World} {b c c' : Nat} {f : Int → Nat} (h : MapN w b c f) (e : c ≤ c') : MapN w b c' f := by
  obtain ⟨n, D, hn, h, k⟩ := h
  exact ⟨n, D, Nat.le_trans hn e, h, k⟩
theorem mapN_new (w : World) (b : Nat) (hb : b = w.heap.size) : MapN (w.alloc (.map #[] 0)) b 0 (fun _ => 0) := by
  subst hb
  exact ⟨0, .map [], Nat.le_refl _, World.ownsMap_made w _ _ _, fun x _ => rfl⟩
theorem zero_intN (w : World) : (zeroValue 3).run Try.prog w = .ok (.int .i64 0) w := by kernel_rfl
section
variable {w : World} {ops : Array Oper} {rest : List Oper} {o : Oper} {a : Act} {Q : Exit → Act → World → Prop} {b c : Nat} {f : Int → Nat}
theorem wpList_nlook (hg : o.guard = none) (m x : Operand) (hop : o.op = Op.lookup 52 m x false) (hm : a.eval m = .map (some b)) (h : MapN w b c f) (z : Int) (hz : wfI z) (hx : a.eval x = .int .i64 z)
    (hK : wpList Try.prog ops Q rest (a.put o.dst (.int .i64 (f z))) w) : wpList Try.prog ops Q (o :: rest) a w := by
  obtain ⟨n, D, hn, h, k⟩ := h
  refine wpList_lookup_own_int w hg m x 52 hop 3 3 .i64 law_int Try.underlying52 Try.underlying3 (zero_intN w) b n D hm h (.int .i64 z) (.int .i64 z) hx (key_int hz) ?_
  intro v hv _
  rw [k z hz] at hv
  injection hv with hv
  injection hv with _ hv
  rw [← hv]
  exact hK
theorem wpList_nput (hg : o.guard = none) (m x v : Operand) (hop : o.op = Op.mapUpdate 52 m x v) (hm : a.eval m = .map (some b)) (h : MapN w b c f) (hc : c ≤ 1000000000) (z : Int) (hz : wfI z) (hx : a.eval x = .int .i64 z) (q : Nat) (hq : q ≤ 1000000000) (hv : a.eval v = .int .i64 q)
    (hK : ∀ w', MapN w' b (c + 1) (fun y => if y = z then q else f y) → w.grownBy w' (some b) → wpList Try.prog ops Q rest (a.put o.dst undef) w') : wpList Try.prog ops Q (o :: rest) a w := by
  obtain ⟨n, D, hn, h, k⟩ := h
  have hwq : (Lit.int .i64 (q : Int)).wf = true := by
    have h1 : IntKind.i64.min = -9223372036854775808 := by decide
    have h2 : IntKind.i64.max = 9223372036854775807 := by decide
    simp only [Lit.wf, h1, h2, Bool.and_eq_true, decide_eq_true_eq]
    omega
  refine wpList_mapUpdate_own w hg m x v 52 hop 3 3 law_int Try.underlying52 (plainElem Try.prog 3) b n D hm h (by unfold maxLen; omega) (.int .i64 z) (.int .i64 q) (.int .i64 z) hx hv (key_int hz) (.lit (.int .i64 q)) [] (plainElem_int Try.underlying3 hwq) ?_
  intro w' h' hg'
  refine hK w' ⟨n + 1, _, by omega, h', fun y hy => ?_⟩ hg'
  by_cases e : y = z
  · subst e
    rw [atKey_put_same h.isMap (law_int.key (key_int hy))]
    simp
  · rw [atKey_put_other (fun e' => e (by injection e')), k y hy]
    simp [e]
end
end Go.Proofs.Ytpdkacfhnmfmaaa

/- Layer 21: degrees, whether rising, sets, by the program. Condition: no more than a million numbers. -/
namespace Go.Proofs.Ytpdkacfhnmfmaaa
open Go.RowKit
attribute [local go_sem] more_cell more_frozen more_more more_setCell more_of_drew more_of_drewN lt_more le_more past_cell past_cell2 past_frozen past_frozen2 past_setCell past_setCell2 mid_cell mid_frozen mid_setCell
attribute [local go_sem ↓] Go.wp_at_zero Go.wp_at_succ

theorem indexI_any (l : List Int) (v : Int) (A : Option Addr) (k : Nat) (hl : l.length ≤ 1000000) (w : World) (ra : Row w A (iV l)) :
    Calls Try.prog 39 #[.slice A l.length k, .int .i64 v] w fun e w' => ∃ r : Int, e = .returned (.int .i64 r) ∧ Grew w w' ∧ (decide (0 ≤ r) = decide (v ∈ l)) := by
  have RA := Lib.hid ra
  clear ra
  go_enter Try.func39, Try.ntmps39
  go_wp2
  go_loopw [8] (fun i wr => HasAt w l v i wr) (fun i _ => l.length - (intOf i).toNat)
  case atStart => exact ⟨0, Nat.zero_le _, rfl, Grew.refl w, by simp⟩
  case round =>
    obtain ⟨j, hj, rfl, hg, hn⟩ := hrel
    have HG := Lib.hid hg
    have HN := Lib.hid hn
    clear hg hn
    by_cases h : j < l.length
    · obtain ⟨b, o, rfl, hb, hc⟩ := rowI_at (RA.out.grew HG.out) h
      have HNx := Lib.hid (not_take h HN.out)
      have HY : Hid (l[j] = v → v ∈ l) := Lib.hid fun e => by rw [← e]; exact List.getElem_mem h
      clear HN
      generalize l[j] = x at *
      by_cases e : x = v
      · have HM := Lib.hid (HY.out e)
        have e1 : (v == x) = true := by simpa using e.symm
        clear HNx HY e
        go_wp2
        go_ret
        exact ⟨_, rfl, HG.out, by rw [decide_eq_true HM.out]; exact decide_eq_true (by omega)⟩
      · have HN2 := Lib.hid (HNx.out e)
        have e1 : (v == x) = false := by simpa using fun q => e q.symm
        clear HNx HY e
        go_wp2
        exact ⟨⟨j + 1, by omega, by go_num, HG.out, HN2.out⟩, by simp only [intOf]; omega⟩
    · obtain rfl : j = l.length := by omega
      rw [List.take_length] at HN
      go_wp2
      go_ret
      exact ⟨_, rfl, HG.out, by rw [decide_eq_false HN.out]; rfl⟩
theorem containsI_any (l : List Int) (v : Int) (A : Option Addr) (k : Nat) (hl : l.length ≤ 1000000) (w : World) (ra : Row w A (iV l)) :
    Gives Try.prog 52 #[.slice A l.length k, .int .i64 v] w (.bool (decide (v ∈ l))) := by
  have HI := Lib.hid (indexI_any l v A k hl w ra)
  clear ra
  generalize decide (v ∈ l) = t at *
  unfold Gives
  go_enter Try.func52, Try.ntmps52
  go_wp2_with fail
  refine HI.out.mono ?_
  rintro e w2 ⟨r, rfl, hg2, hr⟩
  have HG2 := Lib.hid hg2
  clear hg2 HI
  have HR := Lib.hid hr
  clear hr
  go_wp2
  go_ret
  exact ⟨by rw [← HR.out]; rfl, HG2.out⟩
/-- How many edges have one. -/
def degI (h : List (List Int)) (v : Int) : Nat := (h.filter fun e => decide (v ∈ e)).length
theorem degI_in {h : List (List Int)} {v : Int} {j : Nat} (hj : j < h.length) (hv : v ∈ h[j]) : degI (h.take (j + 1)) v = degI (h.take j) v + 1 := by
  unfold degI
  rw [List.take_succ_eq_append_getElem hj, List.filter_append]
  simp [hv]
theorem degI_out {h : List (List Int)} {v : Int} {j : Nat} (hj : j < h.length) (hv : v ∉ h[j]) : degI (h.take (j + 1)) v = degI (h.take j) v := by
  unfold degI
  rw [List.take_succ_eq_append_getElem hj, List.filter_append]
  simp [hv]
theorem degI_le (h : List (List Int)) (v : Int) (j : Nat) : degI (h.take j) v ≤ j := by
  unfold degI
  exact Nat.le_trans (List.length_filter_le _ _) (by rw [List.length_take]; omega)
def DegAt (w : World) (h : List (List Int)) (v : Int) (x i : Value) (wr : World) : Prop := ∃ j : Nat, j ≤ h.length ∧ x = .int .i64 (degI (h.take j) v) ∧ i = .int .i64 j ∧ Grew w wr
theorem rising_adj {l : List Int} (H : ∀ i (_ : i + 1 < l.length), l[i] < l[i + 1]) : Rising l := by
  unfold Rising
  rw [List.pairwise_iff_getElem]
  intro i j hi hj hij
  induction j with
  | zero => omega
  | succ j ih =>
    by_cases e : i = j
    · subst e; exact H i hj
    · exact Int.lt_trans (ih (by omega) (by omega)) (H j hj)
theorem rising_not {l : List Int} {i : Nat} (hi : i + 1 < l.length) (h : ¬ l[i] < l[i + 1]) : ¬ Rising l := fun hr => by
  unfold Rising at hr
  rw [List.pairwise_iff_getElem] at hr
  exact h (hr i (i + 1) (by omega) hi (by omega))
/-- Are all edges rising, each number once? -/
def riseB (h : List (List Int)) : Bool := h.all fun e => decide (setI e = e)
theorem riseB_snoc (h : List (List Int)) (e : List Int) : riseB (h ++ [e]) = (riseB h && decide (setI e = e)) := by
  unfold riseB
  simp
def RiO (w : World) (h : List (List Int)) (i : Value) (wr : World) : Prop := ∃ j : Nat, j ≤ h.length ∧ i = .int .i64 j ∧ Grew w wr ∧ riseB (h.take j) = true
def RiI (w : World) (l : List Int) (i : Value) (wr : World) : Prop := ∃ q : Nat, (q + 1 ≤ l.length ∨ q = 0) ∧ i = .int .i64 ((q + 1 : Nat) : Int) ∧ Grew w wr ∧ ∀ i, i < q → ∀ (_ : i + 1 < l.length), l[i] < l[i + 1]
def SeAt (w : World) (h : List (List Int)) (v i : Value) (wr : World) : Prop := ∃ (j : Nat) (A : Option Addr) (c : Nat) (css : List (List Value)), j ≤ h.length ∧ v = .slice A j c ∧ i = .int .i64 j ∧ GatG w w.heap.size ((h.take j).map setI) A c css wr
set_option maxHeartbeats 600000 in
set_option maxRecDepth 100000 in
theorem sets21_any (h : List (List Int)) (A : Option Addr) (k : Nat) (hw : wfG h) (hl : h.length ≤ 1000000) (hel : ∀ e ∈ h, e.length ≤ 1000000) (w : World) (ra : GridI (PRow w) A h) :
    Calls Try.prog 51 #[.slice A h.length k] w (GridF w (h.map setI)) := by
  have RA := Lib.hid ra
  have HW := Lib.hid hw
  have HEl := Lib.hid hel
  obtain ⟨i0, hi, hz0, hz1, hz2⟩ := info_parts infoL21
  have HI := Lib.hid hi
  have HI0 := Lib.hid hz0
  have HI1 := Lib.hid hz1
  have HI2 := Lib.hid hz2
  clear ra hel hw hi hz0 hz1 hz2
  go_enter Try.func51, Try.ntmps51
  go_wp2_with (at_make; refine wpList_make_cap _ rfl _ _ 22 rfl 25 i0 (.slice none 0 0) Try.underlying22 HI.out HI0.out HI1.out rfl _ _ h.length rfl rfl (by rw [HI2.out]; omega) (by omega) ?_)
  have HO1 : Hid ((w.alloc (.cells (madeCells #[.slice none 0 0] h.length) 25)).ownsRow w.heap.size 25 1 (.slice (some ⟨w.heap.size, 0, none⟩) 0 h.length) 0 []) := Lib.hid ⟨rfl, Or.inr ⟨w.heap.size, h.length, madeCells #[.slice none 0 0] h.length, rfl, Nat.le_refl _, heap_alloc_new w _, Nat.zero_le _, by unfold maxLen; omega, by simp [size_madeCells], by simp⟩⟩
  have H0 : Hid (SeAt w h (.slice (some ⟨w.heap.size, 0, none⟩) 0 h.length) (.int .i64 0) (w.alloc (.cells (madeCells #[.slice none 0 0] h.length) 25))) := Lib.hid ⟨0, _, _, [], Nat.zero_le _, rfl, rfl, (Grew.refl w).alloc _, HO1.out, .nil⟩
  clear HO1 HI HI0 HI1 HI2
  generalize w.alloc (.cells (madeCells #[.slice none 0 0] h.length) 25) = w1 at *
  go_loopw [3, 11] (fun v i wr => SeAt w h v i wr) (fun _ i _ => h.length - (intOf i).toNat)
  case atStart => exact H0.out
  case round =>
    obtain ⟨j, A1, c1, css, hj, rfl, rfl, hG⟩ := hrel
    have HG := Lib.hid hG
    clear hG H0
    by_cases h1 : j < h.length
    · obtain ⟨b, o, B, c, rfl, hb, hc, hr⟩ := gridI_at (RA.out.grew HG.out.grew) h1
      have hle := HEl.out _ (List.getElem_mem h1)
      have hwl := HW.out _ (List.getElem_mem h1)
      have HS := Lib.hid (setof_one h[j] B c hwl hle wr hr)
      have HR := Lib.hid (fun b W (hs : SetL W b h[j]) => rising_any b h[j] hwl hle W hs)
      have HT : Hid ((h.take (j + 1)).map setI = (h.take j).map setI ++ [setI h[j]]) := Lib.hid (by rw [List.take_succ_eq_append_getElem h1, List.map_append]; rfl)
      have HLn : Hid (((h.take j).map setI).length = j) := Lib.hid (by rw [List.length_map, List.length_take]; omega)
      clear hr hwl
      generalize h[j] = l at *
      go_wp2_with (first | (go_at_call 62; (with_reducible refine HS.out.mono ?_); rintro e w5 ⟨b5, rfl, hb5, hg5, hs5⟩; have HG5 := Lib.hid (((Grew.refl wr).alloc (.cells #[.slice B l.length c] 25)).trans hg5); have HS5 := Lib.hid hs5; clear hg5 hs5 hb5) | (go_at_call 63; (with_reducible refine (HR.out _ _ HS5.out).mono ?_); rintro e w6 ⟨A6, k6, rfl, hg6, ho6⟩; have HG6 := Lib.hid (HG.out.on (HG5.out.trans hg6)); have HO6 := Lib.hid (own_le ho6 (Nat.le_trans HG.out.grew.size HG5.out.size)); clear hg6 ho6) | (at_builtin; refine wpList_appB rfl _ _ 22 25 1 rfl w.heap.size (.slice none 0 0) 24 Try.underlying22 infoL21 rfl (by decide) (by decide) _ j css.flatten rfl (by have := own_alloc HG6.out.own (.cells #[.slice A6 (setI l).length k6] 25); rw [HLn.out] at this; exact this) _ 1 1 [.slice A6 (setI l).length k6] rfl rfl (row_one _ _ _ _ rfl) (by simp [Value.oneCell']) (by omega) (by rw [World.size_alloc]; have := HG6.out.grew.size; omega) ?_; intro A9 c9 w9 ho9 hg9; have HF := Lib.hid ((HG6.out.on ((Grew.refl _).alloc (.cells #[.slice A6 (setI l).length k6] 25))).snoc (x := setI l) (v := .slice A6 (setI l).length k6) (Nat.le_refl _) ⟨A6, k6, rfl, MRow.own (own_alloc HO6.out _)⟩ (by rw [HLn.out]; exact ho9) (by rw [HLn.out]; exact hg9)); clear ho9 hg9))
      exact ⟨⟨j + 1, A9, c9, _, by omega, rfl, by go_num, by rw [HT.out]; exact HF.out⟩, by simp only [intOf]; omega⟩
    · obtain rfl : j = h.length := by omega
      have HF : Hid (GridF w (h.map setI) (.returned (.slice A1 h.length c1)) wr) := Lib.hid (by
        have := HG.out.done
        rw [List.take_length] at this
        exact ⟨A1, c1, by rw [List.length_map], HG.out.grew, this⟩)
      go_wp2
      go_ret
      exact HF.out
end Go.Proofs.Ytpdkacfhnmfmaaa

/- Layer 23: is it a join tree, by the program. Condition: no more than a thousand edges, none of more than a thousand. -/
namespace Go.Proofs.Ytpdkacfhnmfmaaa
open Go.RowKit
attribute [local go_sem] more_cell more_frozen more_more more_setCell more_of_drew more_of_drewN lt_more le_more past_cell past_cell2 past_frozen past_frozen2 past_setCell past_setCell2 mid_cell mid_frozen mid_setCell
attribute [local go_sem ↓] Go.wp_at_zero Go.wp_at_succ

theorem mk_mapJ {P : Program} (t : TypeId) (w : World) : (Instr.makeMap t none).run P w = .ok (.map (some w.heap.size)) (w.alloc (.map #[] 0)) := rfl
attribute [local go_sem] mk_mapJ
theorem Row.mapT {w w' : World} {A : Option Addr} {xs : List Value} {mb c : Nat} {f : Int → Nat} (h : Row w A xs) (hm : MapN w mb c f) (k : Turns w w' mb) : Row w' A xs := by
  rcases h with h | ⟨b, o, rfl, hb, hc⟩
  · exact Or.inl h
  · cases xs with
    | nil => exact Or.inl rfl
    | cons x xs =>
      have hne : b ≠ mb := fun e => by
        subst e
        obtain ⟨n, D, _, ⟨es, clock, hh, _⟩, _⟩ := hm
        have h0 := hc 0 x rfl
        unfold World.cell? at h0
        simp [hh] at h0
      exact Or.inr ⟨b, o, rfl, Nat.lt_of_lt_of_le hb k.size, fun j u hu => by rw [← hc j u hu]; exact World.cell?_of_block (k.block b hb hne)⟩
theorem GridI.mapT {w w' : World} {A : Option Addr} {h : List (List Int)} {mb c : Nat} {f : Int → Nat} (k : GridI (PRow w) A h) (hm : MapN w mb c f) (t : Turns w w' mb) : GridI (PRow w') A h := k.imp fun _ _ _ h => Row.mapT h hm t
theorem Turns.of_grownJ {w w' : World} {g : Nat} (k : w.grownBy w' (some g)) : Turns w w' g := ⟨k.os, k.tape, k.output, k.size, fun i hi hn => k.block i hi (fun e => hn (by injection e))⟩
theorem tree_low {p : List Int} (ht : treeB p = true) {i : Nat} (hi : i < p.length) : p.getD i 0 < p.length := by
  have he := ((treeB_iff p).1 ht).1 i hi
  rcases Int.lt_or_le (p.getD i 0) p.length with h | h
  · exact h
  · exfalso
    have h1 : endN p 1 (i : Int) = p.getD i 0 := by
      rw [endN_in ⟨by omega, by omega⟩]
      rfl
    exact not_ends_out h1 (by omega) (by omega) ⟨_, he⟩
def aboveL (h : List (List Int)) (p : List Int) (i : Nat) : List Int := if 0 ≤ p.getD i 0 then h.getD (p.getD i 0).toNat [] else []
theorem topB_iff (h : List (List Int)) (p : List Int) (v : Int) (i : Nat) : topB h p v i = true ↔ v ∈ h.getD i [] ∧ v ∉ aboveL h p i := by
  unfold topB aboveL
  by_cases h1 : 0 ≤ p.getD i 0
  · rw [if_pos h1, decide_eq_true h1]
    simp
  · rw [if_neg h1, decide_eq_false h1]
    simp
theorem topsM_succ (h : List (List Int)) (p : List Int) (v : Int) (m : Nat) : topsM h p v (m + 1) = topsM h p v m + if topB h p v m = true then 1 else 0 := by
  unfold topsM
  rw [List.range_succ, List.filter_append, List.length_append]
  by_cases e : topB h p v m = true
  · simp [e]
  · have e' : topB h p v m = false := by simpa using e
    simp [e']
theorem topsM_le (h : List (List Int)) (p : List Int) (v : Int) (m : Nat) : topsM h p v m ≤ m := Nat.le_trans (List.length_filter_le _ _) (by simp)
/-- The counts while an edge is gone through: so many of its numbers have been looked at. -/
def cntK (h : List (List Int)) (p : List Int) (i k : Nat) (v : Int) : Nat := topsM h p v i + if v ∈ (setI (h.getD i [])).take k ∧ v ∉ aboveL h p i then 1 else 0
theorem cntK_le (h : List (List Int)) (p : List Int) (i k : Nat) (v : Int) : cntK h p i k v ≤ i + 1 := by
  have := topsM_le h p v i
  unfold cntK
  split <;> omega
theorem cntK_zero (h : List (List Int)) (p : List Int) (i : Nat) (v : Int) : cntK h p i 0 v = topsM h p v i := by simp [cntK]
theorem cntK_end (h : List (List Int)) (p : List Int) (i : Nat) (v : Int) : cntK h p i (setI (h.getD i [])).length v = topsM h p v (i + 1) := by
  rw [topsM_succ, cntK, List.take_length]
  congr 1
  by_cases e : topB h p v i = true
  · rw [if_pos e, if_pos]
    have := (topB_iff h p v i).1 e
    exact ⟨(setI_mem _ _).2 this.1, this.2⟩
  · rw [if_neg e, if_neg]
    intro x
    exact e ((topB_iff h p v i).2 ⟨(setI_mem _ _).1 x.1, x.2⟩)
theorem cntK_in {h : List (List Int)} {p : List Int} {i k : Nat} {es : List Int} (hes : setI (h.getD i []) = es) (hk : k < es.length) (hin : es[k] ∈ aboveL h p i) (v : Int) : cntK h p i k v = cntK h p i (k + 1) v := by
  unfold cntK
  rw [hes]
  have hmem : v ∈ es.take (k + 1) ↔ v ∈ es.take k ∨ v = es[k] := by rw [List.take_succ_eq_append_getElem hk, List.mem_append, List.mem_singleton]
  by_cases e : v = es[k]
  · rw [if_neg (fun x => x.2 (by rw [e]; exact hin)), if_neg (fun x => x.2 (by rw [e]; exact hin))]
  · simp only [hmem, e, or_false]
theorem cntK_new {h : List (List Int)} {p : List Int} {i k : Nat} {es : List Int} (hes : setI (h.getD i []) = es) (hk : k < es.length) (hin : es[k] ∉ aboveL h p i) (v : Int) :
    (if v = es[k] then cntK h p i k es[k] + 1 else cntK h p i k v) = cntK h p i (k + 1) v := by
  have hri : es.Pairwise (· < ·) := by rw [← hes]; exact setI_rising (h.getD i [])
  unfold cntK
  rw [hes]
  have hnt : es[k] ∉ es.take k := fun hm => by
    obtain ⟨j, hj, e⟩ := List.mem_iff_getElem.1 hm
    rw [List.getElem_take] at e
    rw [List.length_take] at hj
    have := List.pairwise_iff_getElem.1 hri j k (by omega) hk (by omega)
    omega
  have hmem : v ∈ es.take (k + 1) ↔ v ∈ es.take k ∨ v = es[k] := by rw [List.take_succ_eq_append_getElem hk, List.mem_append, List.mem_singleton]
  by_cases e : v = es[k]
  · rw [if_pos e, if_neg (fun x => hnt x.1), if_pos ⟨hmem.2 (Or.inr e), by rw [e]; exact hin⟩, e]
  · rw [if_neg e]
    simp only [hmem, e, or_false]
def CkAt (w3 : World) (h : List (List Int)) (p : List Int) (mb n : Nat) (x : Value) (wr : World) : Prop := ∃ i : Nat, i ≤ n ∧ x = .int .i64 i ∧ Turns w3 wr mb ∧ MapN wr mb (i * 1000) (fun v => topsM h p v i)
def CiAt (wa : World) (h : List (List Int)) (p : List Int) (mb i m : Nat) (x : Value) (wr : World) : Prop := ∃ k : Nat, k ≤ m ∧ x = .int .i64 k ∧ Turns wa wr mb ∧ MapN wr mb (i * 1000 + k) (cntK h p i k)
def CvAt (w : World) (L : List Int) (f : Int → Nat) (x : Value) (wr : World) : Prop := ∃ k : Nat, k ≤ L.length ∧ x = .int .i64 k ∧ Grew w wr ∧ (L.take k).all (fun v => f v == 1) = true
set_option maxHeartbeats 4000000 in
set_option maxRecDepth 100000 in
theorem check23_any (h : List (List Int)) (hw : wfG h) (hl : h.length ≤ 1000) (hel : ∀ e ∈ h, e.length ≤ 1000) (p : List Int) (n : Nat) (hn : p.length = n) (hn1 : n ≤ 1000) (A : Option Addr) (kA : Nat) (P : Option Addr) (kP : Nat) (w : World) (ra : GridI (PRow w) A h) (rp : Row w P (iV p)) :
    Gives Try.prog 29 #[.slice A h.length kA, .slice P n kP] w (.bool (checkB h p)) := by
  have HRt := Lib.hid (fun W (hW : Grew w W) => right23_any p n hn hn1 P kP W (rp.grew hW))
  have HSt := Lib.hid (fun W (hW : Grew w W) => sets21_any h A kA hw (by omega) (fun e he => Nat.le_trans (hel e he) (by decide)) W (ra.grew hW))
  have hfl : h.flatten.length ≤ 1000000 := by
    have : ∀ (g : List (List Int)), (∀ e ∈ g, e.length ≤ 1000) → g.flatten.length ≤ g.length * 1000 := by
      intro g
      induction g with
      | nil => intro _; simp
      | cons a t ih =>
        intro hg
        have h1 := ih (fun e he => hg e (List.mem_cons_of_mem _ he))
        have h2 := hg a (by simp)
        rw [List.flatten_cons, List.length_append, List.length_cons]
        omega
    have := this h hel
    omega
  have HFl := Lib.hid hfl
  have HVt := Lib.hid (fun W (hW : Grew w W) => vertices21_any h A kA hw (by omega) hfl W (ra.grew hW))
  have HNo1 : Hid (h.length ≠ n → checkB h p = false) := Lib.hid fun e => by
    unfold checkB
    rw [decide_eq_false (by rw [hn]; exact e)]
    rfl
  have HNo2 : Hid (treeB p = false → checkB h p = false) := Lib.hid fun e => by
    unfold checkB
    rw [e, Bool.and_false]
    rfl
  have HYes : Hid (h.length = n → treeB p = true → checkB h p = (setI h.flatten).all fun v => topsM h p v n == 1) := Lib.hid fun e1 e2 => by
    unfold checkB
    rw [e2, hn, decide_eq_true e1]
    rfl
  have HLow : Hid (treeB p = true → ∀ i, i < n → p.getD i 0 < n) := Lib.hid fun e i hi => by
    have := tree_low e (show i < p.length by omega)
    omega
  have HP : Hid (∀ j, j < n → ∃ b o, P = some ⟨b, o, none⟩ ∧ ∀ W, Grew w W → b < W.heap.size ∧ W.cell? ⟨b, o + j, none⟩ = some (.int .i64 (p.getD j 0))) := Lib.hid fun j hj => by
    obtain ⟨b, o, hA, hb, hc⟩ := rowI_at rp (show j < p.length by omega)
    have e : p.getD j 0 = p[j]'(by omega) := by rw [List.getD_eq_getElem?_getD, List.getElem?_eq_getElem (by omega)]; rfl
    rw [e]
    exact ⟨b, o, hA, fun W hW => ⟨Nat.lt_of_lt_of_le hb hW.size, (hW.cell (a := ⟨b, o + j, none⟩) hb).trans hc⟩⟩
  have RA := Lib.hid ra
  have HWf := Lib.hid hw
  have HEl := Lib.hid hel
  clear ra rp hw hel hfl
  generalize checkB h p = cb at *
  unfold Gives
  by_cases hln : h.length = n
  rotate_left
  · obtain rfl := HNo1.out hln
    have e1 : ((h.length : Int) != (n : Int)) = true := by rw [bne_iff_ne]; omega
    clear HNo1 HNo2 HYes HSt HVt HRt HP HLow
    go_enter Try.func29, Try.ntmps29
    go_wp2
    go_ret
    exact ⟨rfl, Grew.refl w⟩
  have hn' := Lib.hid hn
  cases htr : treeB p with
  | false =>
    obtain rfl := HNo2.out htr
    rw [htr] at HRt
    clear HNo1 HNo2 HYes HSt HVt HP HLow htr hn
    rw [hln]
    go_enter Try.func29, Try.ntmps29
    go_wp2_with (go_at_call 14; (with_reducible refine (HRt.out _ (Grew.refl _)).grows.mono ?_); rintro e w1 ⟨rfl, hg1⟩; have HG1 := Lib.hid hg1; clear hg1)
    go_ret
    exact ⟨rfl, HG1.out⟩
  | true =>
    have HCb := Lib.hid (HYes.out hln htr)
    have HLo := Lib.hid (HLow.out htr)
    rw [htr] at HRt
    clear HNo1 HNo2 HYes HLow htr hn
    rw [hln] at HSt HVt ⊢
    have HLn := Lib.hid hln
    clear hln
    go_enter Try.func29, Try.ntmps29
    go_upto_region 4 with (go_at_call 14; (with_reducible refine (HRt.out _ (Grew.refl _)).grows.mono ?_); rintro e w1 ⟨rfl, hg1⟩; have HG1 := Lib.hid hg1; clear hg1)
    have hmb : w.heap.size ≤ w1.heap.size := HG1.out.size
    have HM1 : Hid (MapN (w1.alloc (.map #[] 0)) w1.heap.size 0 (fun _ => 0)) := Lib.hid (mapN_new w1 _ rfl)
    have HG2 := Lib.hid (HG1.out.alloc (.map #[] 0))
    generalize w1.alloc (.map #[] 0) = w2 at *
    generalize w1.heap.size = mb at *
    clear HG1 HRt
    go_wp2_with fail
    refine (HSt.out w2 HG2.out).mono ?_
    rintro e w3 ⟨B, kB, rfl, hg3, hr3⟩
    have HG3 := Lib.hid (HG2.out.trans hg3)
    have HM3 := Lib.hid (HM1.out.grew hg3)
    have HR3 := Lib.hid hr3
    clear hg3 hr3 HG2 HM1 HSt
    rw [List.length_map, HLn.out]
    have HGt : Hid (∀ W, Turns w3 W mb → Grew w W) := Lib.hid fun W hW => hW.below HG3.out hmb
    have HI0 : Hid (CkAt w3 h p mb n (.int .i64 0) w3) := Lib.hid ⟨0, Nat.zero_le _, rfl, Turns.refl _ _, (HM3.out.congr fun v => rfl).up (Nat.zero_le _)⟩
    go_wp2
    go_loopw [28] (fun x wr => CkAt w3 h p mb n x wr) (fun x _ => n - (intOf x).toNat)
    case atStart => exact HI0.out
    case round =>
      obtain ⟨i, hi, rfl, ht, hm⟩ := hrel
      have HT := Lib.hid ht
      have HM := Lib.hid hm
      clear ht hm HI0
      by_cases hin : i < n
      · have hih : i < h.length := by rw [HLn.out]; exact hin
        obtain ⟨c, o, rfl, hpc⟩ := HP.out i hin
        have HPc := Lib.hid hpc
        have HR := Lib.hid (HR3.out.mapT HM3.out HT.out)
        obtain ⟨b, o2, E, cE, rfl, hb, hc, hre⟩ := gridI_at HR.out (show i < (h.map setI).length by rw [List.length_map]; exact hih)
        have ees : (h.map setI)[i]'(by rw [List.length_map]; exact hih) = setI (h.getD i []) := by
          rw [List.getElem_map, List.getD_eq_getElem?_getD, List.getElem?_eq_getElem hih]
          rfl
        rw [ees] at hc hre
        have hly := HLo.out i hin
        have HAb : Hid (0 ≤ p.getD i 0 → ∃ b3 o3 D cD, A = some ⟨b3, o3, none⟩ ∧ (∀ W, Grew w W → b3 < W.heap.size ∧ W.cell? ⟨b3, o3 + (p.getD i 0).toNat, none⟩ = some (.slice D (h.getD (p.getD i 0).toNat []).length cD)) ∧ Row w D (iV (h.getD (p.getD i 0).toNat [])) ∧ (h.getD (p.getD i 0).toNat []).length ≤ 1000) := Lib.hid fun h0 => by
          have hq : (p.getD i 0).toNat < h.length := by rw [HLn.out]; omega
          obtain ⟨b3, o3, D, cD, e3, hb3, hc3, hr3⟩ := gridI_at RA.out hq
          have e4 : h.getD (p.getD i 0).toNat [] = h[(p.getD i 0).toNat] := by rw [List.getD_eq_getElem?_getD, List.getElem?_eq_getElem hq]; rfl
          rw [e4]
          exact ⟨b3, o3, D, cD, e3, fun W hW => ⟨Nat.lt_of_lt_of_le hb3 hW.size, (hW.cell (a := ⟨b3, o3 + (p.getD i 0).toNat, none⟩) hb3).trans hc3⟩, hr3, HEl.out _ (List.getElem_mem hq)⟩
        have hel : (setI (h.getD i [])).length ≤ 1000 := by
          have h1 := setI_len (h.getD i [])
          have h2 : (h.getD i []).length ≤ 1000 := by
            rw [List.getD_eq_getElem?_getD, List.getElem?_eq_getElem hih]
            exact HEl.out _ (List.getElem_mem hih)
          omega
        have HWv : Hid (∀ v ∈ setI (h.getD i []), wfI v) := Lib.hid fun v hv => by
          have hv' := (setI_mem _ _).1 hv
          rw [List.getD_eq_getElem?_getD, List.getElem?_eq_getElem hih] at hv'
          exact HWf.out _ (List.getElem_mem hih) v hv'
        have HAq : Hid (aboveL h p i = if 0 ≤ p.getD i 0 then h.getD (p.getD i 0).toNat [] else []) := Lib.hid rfl
        have HC0 := Lib.hid (cntK_zero h p i)
        have HCe := Lib.hid (cntK_end h p i)
        have HCl := Lib.hid (cntK_le h p i)
        have HCi0 : Hid (CiAt wr h p mb i (setI (h.getD i [])).length (.int .i64 0) wr) := Lib.hid ⟨0, Nat.zero_le _, rfl, Turns.refl _ _, HM.out.congr fun v => (HC0.out v).symm⟩
        have HTo : Hid (∀ W, Turns wr W mb → MapN W mb (i * 1000 + (setI (h.getD i [])).length) (cntK h p i (setI (h.getD i [])).length) → CkAt w3 h p mb n (.int .i64 ((i : Int) + 1)) W) := Lib.hid fun W h1 h2 => ⟨i + 1, by omega, by go_num, HT.out.trans h1, (h2.congr (HCe.out)).up (by omega)⟩
        obtain ⟨hc1, hc2⟩ := hpc wr (HGt.out _ HT.out)
        clear hpc ees HP HLo HC0 HCe HEl HWf
        obtain ⟨es, hes⟩ : ∃ es, setI (h.getD i []) = es := ⟨_, rfl⟩
        have HCi := Lib.hid (fun k hk hv => cntK_in (p := p) (k := k) hes hk hv)
        have HCn := Lib.hid (fun k hk hv => cntK_new (p := p) (k := k) hes hk hv)
        rw [hes] at hc hre hel HWv HCi0 HTo
        clear hes
        have HRe := Lib.hid (fun W (hW : Turns wr W mb) => hre.mapT HM.out hW)
        have hyx : p.getD i 0 = p.getD i 0 := rfl
        clear HR hre hyx
        obtain ⟨y, hy⟩ : ∃ y, p.getD i 0 = y := ⟨_, rfl⟩
        obtain ⟨ab, hab⟩ : ∃ ab, aboveL h p i = ab := ⟨_, rfl⟩
        rw [hy] at HPc HAb HAq hly hc2
        rw [hab] at HAq
        simp only [hab] at HCi HCn
        clear hy hab
        by_cases hy0 : 0 ≤ y
        · obtain ⟨b3, o3, D, cD, rfl, habc, hrD, hlD⟩ := HAb.out hy0
          obtain ⟨q, rfl⟩ : ∃ q : Nat, y = (q : Int) := ⟨y.toNat, by omega⟩
          rw [if_pos hy0] at HAq
          rw [Int.toNat_natCast] at habc hrD hlD HAq
          rw [← HAq.out] at habc hrD hlD
          have HRD := Lib.hid hrD
          obtain ⟨a1, a2⟩ := habc wr (HGt.out _ HT.out)
          have hy0b : decide ((0 : Int) ≤ (q : Int)) = true := decide_eq_true hy0
          clear habc hrD HAq HAb HPc
          go_upto_region 11 with fail
          go_wp2
          obtain ⟨wa, hwa⟩ : ∃ wa : World, wa = wr := ⟨_, rfl⟩
          subst hwa
          go_loopw [45] (fun x wr => CiAt wa h p mb i es.length x wr) (fun x _ => es.length - (intOf x).toNat)
          case atStart => exact HCi0.out
          case round =>
            obtain ⟨k, hk, rfl, ht, hm⟩ := hrel
            have HTk := Lib.hid ht
            have HMk := Lib.hid hm
            clear ht hm
            by_cases hkm : k < es.length
            · obtain ⟨be, oe, rfl, hbe, hce⟩ := rowI_at (HRe.out _ HTk.out) hkm
              have HGr := Lib.hid (HGt.out _ (HT.out.trans HTk.out))
              have HCt := Lib.hid (containsI_any ab es[k] D cD (by omega) _ (HRD.out.grew HGr.out))
              have hwv := HWv.out es[k] (List.getElem_mem hkm)
              have HIn := Lib.hid (HCi.out k hkm)
              have HNw := Lib.hid (HCn.out k hkm)
              have hcl := HCl.out k es[k]
              have HWf := Lib.hid hwv
              clear hwv HCi HCn HWv
              by_cases hv : es[k] ∈ ab
              · rw [decide_eq_true hv] at HCt
                have HF : Hid (∀ W, Grew wr W → CiAt wa h p mb i es.length (.int .i64 ((k : Int) + 1)) W) := Lib.hid fun W hW => ⟨k + 1, by omega, by go_num, HTk.out.grew hW, ((HMk.out.congr (HIn.out hv)).up (by omega)).grew hW⟩
                clear HIn HNw HCl hcl
                generalize es[k] = v at *
                go_wp2_with (go_at_call 52; (with_reducible refine HCt.out.grows.mono ?_); rintro e w5 ⟨rfl, hg5⟩; have HF5 := Lib.hid (HF.out _ hg5); clear hg5)
                exact ⟨HF5.out, by simp only [intOf]; omega⟩
              · rw [decide_eq_false hv] at HCt
                have HNw1 := Lib.hid (HNw.out hv)
                have HCg := Lib.hid (fun w5 (hg5 : Grew wr w5) => HMk.out.grew hg5)
                have hmbk : i * 1000 + k ≤ 1000000000 := by omega
                generalize hq0 : cntK h p i k es[k] = q0 at *
                have HQ0 := Lib.hid hq0
                clear hq0 HIn HNw HCl hv
                generalize es[k] = v at *
                go_wp2_with (first | (go_at_call 52; (with_reducible refine HCt.out.grows.mono ?_); rintro e w5 ⟨rfl, hg5⟩; have HG5 := Lib.hid hg5; have HM5 := Lib.hid (HCg.out _ hg5); clear hg5) | (at_lookup; refine wpList_nlook rfl (.tmp 53) (.tmp 54) rfl rfl HM5.out v HWf.out rfl ?_; rw [HQ0.out]) | (at_mapUpdate; refine wpList_nput rfl (.tmp 53) (.tmp 54) (.tmp 56) rfl rfl HM5.out hmbk v HWf.out rfl (q0 + 1) (by omega) rfl ?_; intro w6 hm6 hg6; have HF6 : Hid (CiAt wa h p mb i es.length (.int .i64 ((k : Int) + 1)) w6) := Lib.hid ⟨k + 1, by omega, by go_num, (HTk.out.grew HG5.out).trans (Turns.of_grownJ hg6), (hm6.congr HNw1.out).up (by omega)⟩; clear hm6 hg6))
                exact ⟨HF6.out, by simp only [intOf]; omega⟩
            · obtain rfl : k = es.length := by omega
              have HF := Lib.hid (HTo.out _ HTk.out HMk.out)
              clear HCi HCn HCl HWv
              go_wp2
              exact ⟨HF.out, by simp only [intOf]; omega⟩
        · have hy0b : decide ((0 : Int) ≤ y) = false := decide_eq_false hy0
          have hy0' : y < 0 := by omega
          rw [if_neg hy0] at HAq
          have hab0 := HAq.out
          obtain ⟨D, hD⟩ : ∃ D : Option Addr, D = none := ⟨_, rfl⟩
          obtain ⟨cD, hcD⟩ : ∃ cD : Nat, cD = 0 := ⟨_, rfl⟩
          have HRD : Hid (Row w D (iV ab)) := Lib.hid (Or.inl (by rw [hab0]; rfl))
          have hlD : ab.length ≤ 1000 := by rw [hab0]; exact Nat.zero_le _
          clear HAq HAb HPc
          go_upto_region 11 with fail
          have eCD : (Value.slice none 0 0) = Value.slice D ab.length cD := by rw [hD, hcD, hab0]; rfl
          rw [eCD]
          clear eCD hD hcD hab0
          go_wp2
          obtain ⟨wa, hwa⟩ : ∃ wa : World, wa = wr := ⟨_, rfl⟩
          subst hwa
          go_loopw [45] (fun x wr => CiAt wa h p mb i es.length x wr) (fun x _ => es.length - (intOf x).toNat)
          case atStart => exact HCi0.out
          case round =>
            obtain ⟨k, hk, rfl, ht, hm⟩ := hrel
            have HTk := Lib.hid ht
            have HMk := Lib.hid hm
            clear ht hm
            by_cases hkm : k < es.length
            · obtain ⟨be, oe, rfl, hbe, hce⟩ := rowI_at (HRe.out _ HTk.out) hkm
              have HGr := Lib.hid (HGt.out _ (HT.out.trans HTk.out))
              have HCt := Lib.hid (containsI_any ab es[k] D cD (by omega) _ (HRD.out.grew HGr.out))
              have hwv := HWv.out es[k] (List.getElem_mem hkm)
              have HIn := Lib.hid (HCi.out k hkm)
              have HNw := Lib.hid (HCn.out k hkm)
              have hcl := HCl.out k es[k]
              have HWf := Lib.hid hwv
              clear hwv HCi HCn HWv
              by_cases hv : es[k] ∈ ab
              · rw [decide_eq_true hv] at HCt
                have HF : Hid (∀ W, Grew wr W → CiAt wa h p mb i es.length (.int .i64 ((k : Int) + 1)) W) := Lib.hid fun W hW => ⟨k + 1, by omega, by go_num, HTk.out.grew hW, ((HMk.out.congr (HIn.out hv)).up (by omega)).grew hW⟩
                clear HIn HNw HCl hcl
                generalize es[k] = v at *
                go_wp2_with (go_at_call 52; (with_reducible refine HCt.out.grows.mono ?_); rintro e w5 ⟨rfl, hg5⟩; have HF5 := Lib.hid (HF.out _ hg5); clear hg5)
                exact ⟨HF5.out, by simp only [intOf]; omega⟩
              · rw [decide_eq_false hv] at HCt
                have HNw1 := Lib.hid (HNw.out hv)
                have HCg := Lib.hid (fun w5 (hg5 : Grew wr w5) => HMk.out.grew hg5)
                have hmbk : i * 1000 + k ≤ 1000000000 := by omega
                generalize hq0 : cntK h p i k es[k] = q0 at *
                have HQ0 := Lib.hid hq0
                clear hq0 HIn HNw HCl hv
                generalize es[k] = v at *
                go_wp2_with (first | (go_at_call 52; (with_reducible refine HCt.out.grows.mono ?_); rintro e w5 ⟨rfl, hg5⟩; have HG5 := Lib.hid hg5; have HM5 := Lib.hid (HCg.out _ hg5); clear hg5) | (at_lookup; refine wpList_nlook rfl (.tmp 53) (.tmp 54) rfl rfl HM5.out v HWf.out rfl ?_; rw [HQ0.out]) | (at_mapUpdate; refine wpList_nput rfl (.tmp 53) (.tmp 54) (.tmp 56) rfl rfl HM5.out hmbk v HWf.out rfl (q0 + 1) (by omega) rfl ?_; intro w6 hm6 hg6; have HF6 : Hid (CiAt wa h p mb i es.length (.int .i64 ((k : Int) + 1)) w6) := Lib.hid ⟨k + 1, by omega, by go_num, (HTk.out.grew HG5.out).trans (Turns.of_grownJ hg6), (hm6.congr HNw1.out).up (by omega)⟩; clear hm6 hg6))
                exact ⟨HF6.out, by simp only [intOf]; omega⟩
            · obtain rfl : k = es.length := by omega
              have HF := Lib.hid (HTo.out _ HTk.out HMk.out)
              clear HCi HCn HCl HWv
              go_wp2
              exact ⟨HF.out, by simp only [intOf]; omega⟩
      · obtain rfl : i = n := by omega
        have HVw := Lib.hid (HVt.out wr (HGt.out _ HT.out))
        have HWl : Hid (∀ v ∈ setI h.flatten, wfI v) := Lib.hid fun v hv => by
          have hv' := (setI_mem _ _).1 hv
          obtain ⟨l, hl, hvl⟩ := List.mem_flatten.1 hv'
          exact HWf.out l hl v hvl
        have hvl : (setI h.flatten).length ≤ 1000000 := Nat.le_trans (setI_len _) HFl.out
        have HGr := Lib.hid (HGt.out _ HT.out)
        have HTl := Lib.hid (fun v => topsM_le h p v i)
        clear HVt HWf HT HP HLo HEl HR3
        generalize setI h.flatten = L at *
        obtain ⟨f, hf⟩ : ∃ f : Int → Nat, f = fun v => topsM h p v i := ⟨_, rfl⟩
        have hfe : ∀ v, topsM h p v i = f v := fun v => by rw [hf]
        simp only [hfe] at HM HCb HTl
        clear hf hfe
        go_wp2_with fail
        refine HVw.out.mono ?_
        rintro e w5 ⟨V, kV, rfl, hg5, ho5⟩
        have HR5 := Lib.hid (own_rowI ho5)
        have HM5 := Lib.hid (HM.out.grew hg5)
        have HG5 := Lib.hid (HGr.out.trans hg5)
        clear ho5 hg5 HVw
        go_wp2
        go_loopw [62] (fun x wr => CvAt w5 L f x wr) (fun x _ => L.length - (intOf x).toNat)
        case atStart => exact ⟨0, Nat.zero_le _, rfl, Grew.refl _, by simp⟩
        case round =>
          obtain ⟨k, hk, rfl, hgk, hall⟩ := hrel
          have HGk := Lib.hid hgk
          have HAll := Lib.hid hall
          clear hgk hall
          by_cases hkl : k < L.length
          · obtain ⟨bv, ov, rfl, hbv, hcv⟩ := rowI_at (HR5.out.grew HGk.out) hkl
            have HWv := Lib.hid (HWl.out _ (List.getElem_mem hkl))
            have HMk := Lib.hid (HM5.out.grew HGk.out)
            have HNx : Hid ((f L[k] == 1) = true → (L.take (k + 1)).all (fun v => f v == 1) = true) := Lib.hid fun e => by
              rw [List.take_succ_eq_append_getElem hkl, List.all_append, HAll.out]
              simpa using e
            have HNo : Hid ((f L[k] == 1) = false → cb = false) := Lib.hid fun e => by
              rw [HCb.out]
              rw [Bool.eq_false_iff]
              intro ha
              have := List.all_eq_true.1 ha _ (List.getElem_mem hkl)
              have e' : (f L[k] == 1) = true := this
              rw [e'] at e
              cases e
            have hft := HTl.out L[k]
            generalize hq : f L[k] = q at *
            have HQ := Lib.hid hq
            clear hq HAll HWl HTl
            generalize L[k] = v at *
            by_cases hq1 : q = 1
            · subst hq1
              have HN := Lib.hid (HNx.out rfl)
              clear HNx HNo
              go_wp2_with (at_lookup; refine wpList_nlook rfl (.tmp 66) (.tmp 67) rfl rfl HMk.out v HWv.out rfl ?_; rw [HQ.out])
              exact ⟨⟨k + 1, by omega, by go_num, HGk.out, HN.out⟩, by simp only [intOf]; omega⟩
            · have hq1b : ((q : Int) != 1) = true := by rw [bne_iff_ne]; omega
              have hq1i : ¬ (q : Int) = 1 := by omega
              obtain rfl := HNo.out (by rw [beq_eq_false_iff_ne]; exact hq1)
              clear HNx HNo hq1
              go_wp2_with (at_lookup; refine wpList_nlook rfl (.tmp 66) (.tmp 67) rfl rfl HMk.out v HWv.out rfl ?_; rw [HQ.out])
              go_ret
              exact ⟨rfl, HG5.out.trans HGk.out⟩
          · obtain rfl : k = L.length := by omega
            obtain rfl : cb = true := by
              rw [HCb.out]
              have h1 := HAll.out
              rw [List.take_length] at h1
              exact h1
            clear HAll HCb
            go_wp2
            go_ret
            exact ⟨rfl, HG5.out.trans HGk.out⟩
end Go.Proofs.Ytpdkacfhnmfmaaa

/- Layer 23: a way in a row of its own; a row of one's own turned round, by the library. Condition: no more than a thousand nodes. -/
namespace Go.Proofs.Ytpdkacfhnmfmaaa
open Go.RowKit
attribute [local go_sem] more_cell more_frozen more_more more_setCell more_of_drew more_of_drewN lt_more le_more past_cell past_cell2 past_frozen past_frozen2 past_setCell past_setCell2 mid_cell mid_frozen mid_setCell
attribute [local go_sem ↓] Go.wp_at_zero Go.wp_at_succ

theorem grow_noneJ (w : World) : Go.Sort.grow w #[] = w := by
  unfold Go.Sort.grow
  simp
theorem reverse_own (l : List Int) (hz : l.length ≤ 1000000) (A : Option Addr) (c base : Nat) (w : World) (ho : w.ownsRow base 3 1 (.slice A l.length c) l.length (iV l)) :
    Calls Try.prog 47 #[.slice A l.length c] w fun e w' => e = .returned (.tuple #[]) ∧ w'.ownsRow base 3 1 (.slice A l.length c) l.length (iV l.reverse) ∧ w.grownBy w' (Value.slice A l.length c).ownBlock := by
  have hl : l.reverse.length = l.length := List.length_reverse
  by_cases h0 : l.length = 0
  · have h00 : l = [] := List.eq_nil_of_length_eq_zero h0
    subst h00
    refine (Try.slices_Reverse_int_empty A c w).mono ?_
    rintro e w' ⟨rfl, rfl⟩
    exact ⟨rfl, ho, World.grownBy.refl _ _⟩
  rcases ho.2 with ⟨h1, h2⟩ | ⟨g, cap, cur, h1, hbase, hgb, r1, r2, r3, r4⟩
  · omega
  · injection h1 with h1 _ h1''
    subst h1 h1''
    have hH : Go.Sort.Holds (Value.int .i64) w g 0 l.toArray := holds_of_blockI hgb (by simpa [iV] using r4)
    refine (Try.slices_Reverse_int g 0 c l w hH (by omega)).mono ?_
    rintro e w' ⟨rfl, n, rfl⟩
    have a1 := ownsRow_sortedI (n := n) (os := #[]) (ts := l.reverse) hl hbase hgb r1 r2 r3
    have a2 := grownBy_sortedI (w := w) (g := g) (n := n) (os := #[]) l.reverse.toArray
    rw [grow_noneJ] at a1 a2
    exact ⟨rfl, a1, a2⟩
def iI (l : List Nat) : List Int := l.map fun x : Nat => (x : Int)
theorem iI_len (l : List Nat) : (iI l).length = l.length := by simp [iI]
theorem nL_iI (l : List Nat) : nL l = iV (iI l) := by simp [nL, iV, iI]
theorem way_own (p : List Int) (A2 : Option Addr) (k2 : Nat) (K : Nat) (hK : K ≤ 1000) (i0 : Int) (hend : ¬ (0 ≤ endN p K i0 ∧ endN p K i0 < p.length)) (w : World) (rp : Row w A2 (iV p)) :
    Calls Try.prog 46 #[.slice A2 p.length k2, .int .i64 i0] w (OwnI w (iI (wayN p K i0))) := by
  have HS0 : Hid (WaS w w.heap.size [] (w.alloc (.cells #[.slice none 0 0] 25))) := Lib.hid ⟨(Grew.refl w).alloc _, Nat.le_refl _, none, 0, Blok.new _ _ _ _ rfl, own_none _ _ _ _⟩
  have HCl := Lib.hid (climbway_any w w.heap.size p A2 k2 rp K hK i0 hend _ HS0.out)
  clear rp hend HS0
  generalize wayN p K i0 = fw at *
  generalize endN p K i0 = fe at *
  go_enter Try.func46, Try.ntmps46
  go_wp2_with (go_at_call 36; (with_reducible refine HCl.out.mono ?_); rintro e w6 ⟨rfl, hs6⟩; have HS6 := Lib.hid hs6; obtain ⟨A6, c6, hb6, ho6⟩ := hs6.own; have t0 := hb6.cell 0; have tl := hb6.lt; simp only [List.getElem?_toArray, List.getElem?_cons_zero] at t0; have HF := Lib.hid (show OwnI w (iI fw) (.returned (.slice A6 fw.length c6)) w6 from ⟨A6, c6, by rw [iI_len], hs6.grew, by rw [iI_len, ← nL_iI]; exact own_le ho6 (by omega)⟩); clear hs6 hb6 ho6)
  all_goals first | exact HF.out | (go_ret; exact HF.out)
/-- How much two lists have in common at their heads. -/
def cplI : List Int → List Int → Nat
  | x :: u, y :: d => if x = y then cplI u d + 1 else 0
  | _, _ => 0
theorem cplI_at : ∀ (u d : List Int) (j : Nat), j ≤ u.length → j ≤ d.length → u.take j = d.take j → (∀ (h1 : j < u.length) (h2 : j < d.length), u[j] ≠ d[j]) → cplI u d = j := by
  intro u
  induction u with
  | nil => intro d j h1 _ _ _; have : j = 0 := by simpa using h1
           subst this; rfl
  | cons x u ih =>
    intro d j h1 h2 he hn
    cases d with
    | nil => have : j = 0 := by simpa using h2
             subst this; rfl
    | cons y d =>
      cases j with
      | zero =>
        have := hn (by simp) (by simp)
        show (if x = y then cplI u d + 1 else 0) = 0
        exact if_neg this
      | succ j =>
        rw [List.take_succ_cons, List.take_succ_cons] at he
        injection he with he1 he2
        subst he1
        show (if x = x then cplI u d + 1 else 0) = j + 1
        rw [if_pos rfl, ih d j (by simpa using h1) (by simpa using h2) he2 (fun a b => by
          have := hn (by simpa using a) (by simpa using b)
          simpa using this)]
/-- The way from one to another, of both ways from the root. -/
def pathU (u d : List Int) : List Int := (u.drop (cplI u d - 1)).reverse ++ d.drop (cplI u d)
end Go.Proofs.Ytpdkacfhnmfmaaa

/- Layer 23: the way from one node to another, by the program. Condition: no more than a thousand nodes, and both ways begin at one root. -/
namespace Go.Proofs.Ytpdkacfhnmfmaaa
open Go.RowKit
attribute [local go_sem] more_cell more_frozen more_more more_setCell more_of_drew more_of_drewN lt_more le_more past_cell past_cell2 past_frozen past_frozen2 past_setCell past_setCell2 mid_cell mid_frozen mid_setCell
attribute [local go_sem ↓] Go.wp_at_zero Go.wp_at_succ

def CpAt (w : World) (u d : List Int) (x : Value) (wr : World) : Prop := ∃ j : Nat, j ≤ u.length ∧ j ≤ d.length ∧ x = .int .i64 j ∧ u.take j = d.take j ∧ Grew w wr
theorem take_nextI {u d : List Int} {j : Nat} (h1 : j < u.length) (h2 : j < d.length) (h : u.take j = d.take j) (e : u[j] = d[j]) : u.take (j + 1) = d.take (j + 1) := by
  rw [List.take_succ_eq_append_getElem h1, List.take_succ_eq_append_getElem h2, h, e]
set_option maxHeartbeats 4000000 in
set_option maxRecDepth 100000 in
theorem path23_yes (A : Option Addr) (n k : Nat) (p : List Int) (m : Nat) (hm : p.length = m) (hm1 : m ≤ 1000) (A2 : Option Addr) (k2 : Nat) (a b : Nat) (ha : a < m) (hb : b < m) (w : World)
    (hT : ∀ W, Grew w W → Gives Try.prog 40 #[.slice A n k] W (.slice A2 m k2)) (rp : Row w A2 (iV p)) (hend : ∀ i, ¬ (0 ≤ endN p m i ∧ endN p m i < p.length)) (u d : List Int) (hu : (iI (wayN p m a)).reverse = u) (hd : (iI (wayN p m b)).reverse = d) (hc : 1 ≤ cplI u d) :
    Calls Try.prog 25 #[.slice A n k, .int .i64 a, .int .i64 b] w (LisF w (pathU u d)) := by
  have HT := Lib.hid hT
  have HNa : Hid (∀ W, Gives Try.prog 45 #[.slice A2 m k2, .int .i64 a] W (.bool true)) := Lib.hid fun W => by
    have h := node_any A2 m k2 (a : Int) W
    rw [decide_eq_true (show (0 : Int) ≤ (a : Int) by omega), decide_eq_true (show (a : Int) < (m : Int) by omega)] at h
    exact h
  have HNb : Hid (∀ W, Gives Try.prog 45 #[.slice A2 m k2, .int .i64 b] W (.bool true)) := Lib.hid fun W => by
    have h := node_any A2 m k2 (b : Int) W
    rw [decide_eq_true (show (0 : Int) ≤ (b : Int) by omega), decide_eq_true (show (b : Int) < (m : Int) by omega)] at h
    exact h
  obtain ⟨x, hx⟩ : ∃ x, iI (wayN p m a) = x := ⟨_, rfl⟩
  obtain ⟨y, hy⟩ : ∃ y, iI (wayN p m b) = y := ⟨_, rfl⟩
  have hdl : ∀ (f : Nat) (i : Int), depN p f i ≤ f := by
    intro f
    induction f with
    | zero => intro i; exact Nat.le_refl _
    | succ f ih =>
      intro i
      unfold depN
      split
      · have := ih (p.getD i.toNat 0); omega
      · omega
  have hxl : x.length ≤ 1000 := by rw [← hx, iI_len, wayN_len]; have := hdl m a; omega
  have hyl : y.length ≤ 1000 := by rw [← hy, iI_len, wayN_len]; have := hdl m b; omega
  have HWa : Hid (∀ W, Grew w W → Calls Try.prog 46 #[.slice A2 m k2, .int .i64 a] W (OwnI W x)) := Lib.hid fun W hW => by
    have h := way_own p A2 k2 m hm1 a (hend a) W (rp.grew hW)
    rw [hm, hx] at h
    exact h
  have HWb : Hid (∀ W, Grew w W → Calls Try.prog 46 #[.slice A2 m k2, .int .i64 b] W (OwnI W y)) := Lib.hid fun W hW => by
    have h := way_own p A2 k2 m hm1 b (hend b) W (rp.grew hW)
    rw [hm, hy] at h
    exact h
  rw [hx] at hu
  rw [hy] at hd
  have hul : u.length = x.length := by rw [← hu, List.length_reverse]
  have hdl2 : d.length = y.length := by rw [← hd, List.length_reverse]
  have HU := Lib.hid hu
  have HD := Lib.hid hd
  have HC := Lib.hid hc
  obtain ⟨R, hR⟩ : ∃ R, pathU u d = R := ⟨_, rfl⟩
  have HR := Lib.hid hR
  rw [hR]
  clear hT rp hend hx hy hdl hu hd hc hR hm
  have HUl := Lib.hid hul
  have HDl := Lib.hid hdl2
  clear hul hdl2
  go_enter Try.func25, Try.ntmps25
  go_wp2_with fail
  refine (HT.out w (Grew.refl w)).grows.mono ?_
  rintro e w1 ⟨rfl, hg1⟩
  have HG1 := Lib.hid hg1
  clear hg1 HT
  go_upto_region 4 with (first | (go_at_call_of 45 (Value.int .i64 a); (with_reducible refine (HNa.out _).grows.mono ?_); rintro e w2 ⟨rfl, hg2⟩; have HG2 := Lib.hid (HG1.out.trans hg2); clear hg2) | (go_at_call 45; (with_reducible refine (HNb.out _).grows.mono ?_); rintro e w3 ⟨rfl, hg3⟩; have HG3 := Lib.hid (HG2.out.trans hg3); clear hg3))
  clear HNa HNb HG1 HG2
  go_wp2_with fail
  refine (HWa.out _ HG3.out).mono ?_
  rintro e w4 ⟨U, cU, rfl, hg4, hoU⟩
  have HG4 := Lib.hid (HG3.out.trans hg4)
  have HOU := Lib.hid hoU
  have HLU := Lib.hid (own_lt hoU)
  clear hg4 hoU HWa
  go_wp2_with fail
  refine (HWb.out _ HG4.out).mono ?_
  rintro e w5 ⟨D, cD, rfl, hg5, hoD⟩
  have HG5 := Lib.hid (HG4.out.trans hg5)
  have HOU5 := Lib.hid (own_grewU HOU.out hg5)
  have HOD := Lib.hid hoD
  have HBD := Lib.hid (own_base hoD)
  clear hg5 hoD HWb HOU
  have hne : ∀ q, (Value.slice D y.length cD).ownBlock = some q → some q ≠ (Value.slice U x.length cU).ownBlock := fun q hq e => by
    have h1 := HBD.out q hq
    have h2 := HLU.out q e.symm
    omega
  have HNe := Lib.hid hne
  have HNe2 : Hid (∀ q, (Value.slice U x.length cU).ownBlock = some q → some q ≠ (Value.slice D y.length cD).ownBlock) := Lib.hid fun q hq e => hne q e.symm hq.symm
  clear hne HBD HLU
  go_wp2_with fail
  refine (reverse_own x (by omega) U cU w3.heap.size w5 HOU5.out).mono ?_
  rintro e w6 ⟨rfl, hoU6, hb6⟩
  rw [HU.out] at hoU6
  have HG6 := Lib.hid (HG5.out.grown hb6 (fun q hq => by have := own_base HOU5.out q hq; have := HG3.out.size; omega))
  have HOU6 := Lib.hid hoU6
  have HOD6 := Lib.hid (own_grown HOD.out hb6 HNe.out)
  clear hoU6 hb6 HOU5 HOD
  go_wp2_with fail
  refine (reverse_own y (by omega) D cD w4.heap.size w6 HOD6.out).mono ?_
  rintro e w7 ⟨rfl, hoD7, hb7⟩
  rw [HD.out] at hoD7
  have HG7 := Lib.hid (HG6.out.grown hb7 (fun q hq => by have := own_base HOD6.out q hq; have := HG4.out.size; omega))
  have HRD := Lib.hid (own_rowI hoD7)
  have HOU7 := Lib.hid (own_grown HOU6.out hb7 HNe2.out)
  have HRU := Lib.hid (own_rowI HOU7.out)
  have HcU := Lib.hid (own_cap' HOU7.out)
  have HcD := Lib.hid (own_cap' hoD7)
  clear hoD7 hb7 HOU6 HOD6 HNe HNe2 HU HD HG6 HG5 HG4 HG3 HOU7
  rw [← HUl.out] at HcU hxl ⊢
  rw [← HDl.out] at HcD hyl ⊢
  clear HUl HDl
  have hu0 : 0 < u.length := by
    cases u with
    | nil => exact absurd HC.out (by show ¬ 1 ≤ 0; omega)
    | cons _ _ => simp
  have hd0 : 0 < d.length := by
    cases d with
    | nil => exact absurd HC.out (by cases u <;> (show ¬ 1 ≤ 0; omega))
    | cons _ _ => simp
  obtain ⟨bu, ou, rfl, gA1, gA2⟩ := rowI_at HRU.out hu0
  obtain ⟨bd, od, rfl, gA3, gA4⟩ := rowI_at HRD.out hd0
  clear gA1 gA2 gA3 gA4
  go_wp2
  go_loopw [9] (fun x wr => CpAt w7 u d x wr) (fun x _ => u.length - (intOf x).toNat)
  case atStart => exact ⟨0, Nat.zero_le _, Nat.zero_le _, rfl, rfl, Grew.refl _⟩
  case round =>
    obtain ⟨j, hju, hjd, rfl, he, hg⟩ := hrel
    have HG := Lib.hid hg
    have HE := Lib.hid he
    clear hg he hu0 hd0
    by_cases h1 : j < u.length
    · have e1 : decide ((j : Int) < (u.length : Int)) = true := decide_eq_true (by omega)
      have e1' : decide (j < u.length) = true := decide_eq_true h1
      by_cases h2 : j < d.length
      · have e2 : decide ((j : Int) < (d.length : Int)) = true := decide_eq_true (by omega)
        have e2' : decide (j < d.length) = true := decide_eq_true h2
        obtain ⟨hbu, hcu⟩ := irow_cell (HRU.out.grew HG.out) h1 rfl
        obtain ⟨hbd, hcd⟩ := irow_cell (HRD.out.grew HG.out) h2 rfl
        by_cases he : u[j] = d[j]
        · have HNx := Lib.hid (take_nextI h1 h2 HE.out he)
          rw [he] at hcu
          clear HE he
          generalize d[j] = zz at *
          go_upto_region 8 with fail
          refine wp_region_more (by kernel_rfl) (by kernel_rfl) ?_
          repeat (go_big_quiet_step ((fail)))
          refine wpQuiet_nil ?_
          rintro _ ⟨z, rfl⟩
          go_wp2
          exact ⟨⟨j + 1, by omega, by omega, by go_num, HNx.out, HG.out.more z⟩, by simp only [intOf]; omega⟩
        · have hez : ¬ u[j] = d[j] := he
          have hzb : (u[j] == d[j]) = false := beq_eq_false_iff_ne.2 he
          have HCp := Lib.hid (cplI_at u d j hju hjd HE.out (fun _ _ => he))
          clear he
          generalize u[j] = z1 at *
          generalize d[j] = z2 at *
          go_upto_region 8 with fail
          refine wp_region_more (by kernel_rfl) (by kernel_rfl) ?_
          repeat (go_big_quiet_step ((fail)))
          refine wpQuiet_nil ?_
          rintro _ ⟨z, rfl⟩
          obtain ⟨c', hcj⟩ : ∃ c', j = c' + 1 := ⟨j - 1, by have := HC.out; have := HCp.out; omega⟩
          have HGz := Lib.hid (HG.out.more z)
          have hwj : IntKind.i64.wrap ((j : Int) - 1) = (c' : Int) := by rw [IntWalk.i64_in _ (by omega)]; omega
          have hcu1 : c' < u.length := by omega
          have hcc : c' < cU := by have := HcU.out; omega
          have HFin : Hid (R = (u.drop c').reverse ++ d.drop j) := Lib.hid (by rw [← HR.out]; unfold pathU; rw [HCp.out, hcj]; rfl)
          clear hcu hcd hbu hbd hez hzb h1 h2 e1 e1' e2 e2' HE HR HCp hcj
          generalize more wr z = wz at *
          have hrdu : Row wz (some ⟨bu, ou + c', none⟩) (iV (u.drop c')) := by
            have h := row_dropI (HRU.out.grew HGz.out) c'
            simpa [add_plain] using h
          have HCl : Hid (Calls Try.prog 48 #[.slice (some ⟨bu, ou + c', none⟩) (u.length - c') (cU - c')] wz (OwnI wz (u.drop c'))) := Lib.hid (by
            have h := clone_ints (u.drop c') (by rw [List.length_drop]; omega) (some ⟨bu, ou + c', none⟩) (cU - c') wz hrdu
            rw [List.length_drop] at h
            exact h)
          clear hrdu
          go_upto_region 10 with fail
          go_wp2_with fail
          refine HCl.out.mono ?_
          rintro e w8 ⟨E, cE, rfl, hg8, ho8⟩
          have HG8 := Lib.hid (HGz.out.trans hg8)
          have HO8 := Lib.hid ho8
          have hwz := hg8.size
          clear hg8 ho8 HCl
          have hel : (u.drop c').length = u.length - c' := List.length_drop
          have hel2 : (u.drop c').length ≤ 1000 := by omega
          generalize u.drop c' = s at *
          have HEl := Lib.hid hel
          clear hel
          go_wp2_with fail
          refine (reverse_own s (by omega) E cE wz.heap.size w8 HO8.out).mono ?_
          rintro e w9 ⟨rfl, ho9, hb9⟩
          have hww : w.heap.size ≤ wz.heap.size := (HG7.out.trans HGz.out).size
          have HO9 := Lib.hid ho9
          have HG9 := Lib.hid ((HG8.out).grown hb9 (fun q hq => by have := own_base HO8.out q hq; have := HGz.out.size; omega))
          have hz9 := hb9.size
          have HLs : Hid (s.reverse.length = s.length) := Lib.hid List.length_reverse
          clear ho9 hb9 HO8
          have hdl : (d.drop j).length = d.length - j := List.length_drop
          have hj0 : (j : Int) ≤ (d.length : Int) := by omega
          have hjc : (j : Int) ≤ (cD : Int) := by have := HcD.out; omega
          have hw79 : w7.heap.size ≤ w9.heap.size := HG9.out.size
          have HFi : Hid (∀ A' c' W, W.ownsRow wz.heap.size 3 1 (.slice A' (s.length + (d.length - j)) c') (s.length + (d.length - j)) (iV s.reverse ++ iV (d.drop j)) → Grew w7 W → LisF w R (.returned (.slice A' (s.length + (d.length - j)) c')) W) := Lib.hid fun A' c' W h1 h2 => by
            have e : iV s.reverse ++ iV (d.drop j) = iV R := by rw [HFin.out]; simp [iV]
            have el : R.length = s.length + (d.length - j) := by rw [HFin.out, List.length_append, List.length_reverse, List.length_drop]
            rw [e] at h1
            exact ⟨A', c', by rw [el], HG7.out.trans h2, (TRow.own h1).low hww⟩
          have hs1000 : s.length ≤ 1000 := hel2
          have HB9 : Hid (w9.heap.size = w9.heap.size) := Lib.hid rfl
          by_cases hjcD : j = cD
          · subst hjcD
            have hjl : d.length - j = 0 := by have := HcD.out; omega
            have hd0 : d.drop j = [] := List.drop_of_length_le HcD.out
            rw [hjl, hd0] at HFi
            have hb0 : wz.heap.size ≤ w9.heap.size := by omega
            clear hd0 hdl
            go_upto_region 12 with fail
            go_wp2_with (at_builtin; refine wpList_appB rfl _ _ 25 3 1 rfl wz.heap.size (.int .i64 0) 8 Try.underlying25 infoI rfl (by decide) (by decide) _ s.length (iV s.reverse) rfl HO9.out _ 0 _ [] rfl rfl (Or.inl rfl) (by simp) (by omega) hb0 ?_; intro A9 c9 w10 ho10 hg10; have HZ := Lib.hid (HFi.out _ _ _ ho10 (HG9.out.grown hg10 (fun q hq => by have := own_base HO9.out q hq; have := HGz.out.size; omega))); clear ho10 hg10)
            all_goals first | exact HZ.out | (go_ret; exact HZ.out)
          · have hjlt : j < cD := by omega
            have HRX : Hid (Row w9 (some ⟨bd, od + j, none⟩ : Option Addr) (iV (d.drop j))) := Lib.hid (by
              have h := row_dropI (HRD.out.grew HG9.out) j
              simpa [add_plain] using h)
            have HL1 : Hid ((iV (d.drop j)).length = (d.length - j) * 1) := Lib.hid (by simp [iV])
            have hb0 : wz.heap.size ≤ w9.heap.size := by omega
            go_wp2_with (at_builtin; refine wpList_appB rfl _ _ 25 3 1 rfl wz.heap.size (.int .i64 0) 8 Try.underlying25 infoI rfl (by decide) (by decide) _ s.length (iV s.reverse) rfl HO9.out _ (d.length - j) _ (iV (d.drop j)) rfl HL1.out HRX.out (iV_one _) (by omega) hb0 ?_; intro A9 c9 w10 ho10 hg10; have HZ := Lib.hid (HFi.out _ _ _ ho10 (HG9.out.grown hg10 (fun q hq => by have := own_base HO9.out q hq; have := HGz.out.size; omega))); clear ho10 hg10)
            all_goals first | exact HZ.out | (go_ret; exact HZ.out)
      · have e2 : decide ((j : Int) < (d.length : Int)) = false := decide_eq_false (by omega)
        have e2' : decide (j < d.length) = false := decide_eq_false h2
        have h2i : (d.length : Int) ≤ (j : Int) := by omega
        have HCp := Lib.hid (cplI_at u d j hju hjd HE.out (fun _ a => absurd a h2))
        go_upto_region 8 with fail
        refine wp_region_more (by kernel_rfl) (by kernel_rfl) ?_
        repeat (go_big_quiet_step ((fail)))
        refine wpQuiet_nil ?_
        rintro _ ⟨z, rfl⟩
        obtain ⟨c', hcj⟩ : ∃ c', j = c' + 1 := ⟨j - 1, by have := HC.out; have := HCp.out; omega⟩
        have HGz := Lib.hid (HG.out.more z)
        have hwj : IntKind.i64.wrap ((j : Int) - 1) = (c' : Int) := by rw [IntWalk.i64_in _ (by omega)]; omega
        have hcu1 : c' < u.length := by omega
        have hcc : c' < cU := by have := HcU.out; omega
        have HFin : Hid (R = (u.drop c').reverse ++ d.drop j) := Lib.hid (by rw [← HR.out]; unfold pathU; rw [HCp.out, hcj]; rfl)
        clear h1 h2 e1 e1' e2 e2' h2i HE HR HCp hcj
        generalize more wr z = wz at *
        have hrdu : Row wz (some ⟨bu, ou + c', none⟩) (iV (u.drop c')) := by
          have h := row_dropI (HRU.out.grew HGz.out) c'
          simpa [add_plain] using h
        have HCl : Hid (Calls Try.prog 48 #[.slice (some ⟨bu, ou + c', none⟩) (u.length - c') (cU - c')] wz (OwnI wz (u.drop c'))) := Lib.hid (by
          have h := clone_ints (u.drop c') (by rw [List.length_drop]; omega) (some ⟨bu, ou + c', none⟩) (cU - c') wz hrdu
          rw [List.length_drop] at h
          exact h)
        clear hrdu
        go_upto_region 10 with fail
        go_wp2_with fail
        refine HCl.out.mono ?_
        rintro e w8 ⟨E, cE, rfl, hg8, ho8⟩
        have HG8 := Lib.hid (HGz.out.trans hg8)
        have HO8 := Lib.hid ho8
        have hwz := hg8.size
        clear hg8 ho8 HCl
        have hel : (u.drop c').length = u.length - c' := List.length_drop
        have hel2 : (u.drop c').length ≤ 1000 := by omega
        generalize u.drop c' = s at *
        have HEl := Lib.hid hel
        clear hel
        go_wp2_with fail
        refine (reverse_own s (by omega) E cE wz.heap.size w8 HO8.out).mono ?_
        rintro e w9 ⟨rfl, ho9, hb9⟩
        have hww : w.heap.size ≤ wz.heap.size := (HG7.out.trans HGz.out).size
        have HO9 := Lib.hid ho9
        have HG9 := Lib.hid ((HG8.out).grown hb9 (fun q hq => by have := own_base HO8.out q hq; have := HGz.out.size; omega))
        have hz9 := hb9.size
        have HLs : Hid (s.reverse.length = s.length) := Lib.hid List.length_reverse
        clear ho9 hb9 HO8
        have hdl : (d.drop j).length = d.length - j := List.length_drop
        have hj0 : (j : Int) ≤ (d.length : Int) := by omega
        have hjc : (j : Int) ≤ (cD : Int) := by have := HcD.out; omega
        have hw79 : w7.heap.size ≤ w9.heap.size := HG9.out.size
        have HFi : Hid (∀ A' c' W, W.ownsRow wz.heap.size 3 1 (.slice A' (s.length + (d.length - j)) c') (s.length + (d.length - j)) (iV s.reverse ++ iV (d.drop j)) → Grew w7 W → LisF w R (.returned (.slice A' (s.length + (d.length - j)) c')) W) := Lib.hid fun A' c' W h1 h2 => by
          have e : iV s.reverse ++ iV (d.drop j) = iV R := by rw [HFin.out]; simp [iV]
          have el : R.length = s.length + (d.length - j) := by rw [HFin.out, List.length_append, List.length_reverse, List.length_drop]
          rw [e] at h1
          exact ⟨A', c', by rw [el], HG7.out.trans h2, (TRow.own h1).low hww⟩
        have hs1000 : s.length ≤ 1000 := hel2
        have HB9 : Hid (w9.heap.size = w9.heap.size) := Lib.hid rfl
        by_cases hjcD : j = cD
        · subst hjcD
          have hjl : d.length - j = 0 := by have := HcD.out; omega
          have hd0 : d.drop j = [] := List.drop_of_length_le HcD.out
          rw [hjl, hd0] at HFi
          have hb0 : wz.heap.size ≤ w9.heap.size := by omega
          clear hd0 hdl
          go_upto_region 12 with fail
          go_wp2_with (at_builtin; refine wpList_appB rfl _ _ 25 3 1 rfl wz.heap.size (.int .i64 0) 8 Try.underlying25 infoI rfl (by decide) (by decide) _ s.length (iV s.reverse) rfl HO9.out _ 0 _ [] rfl rfl (Or.inl rfl) (by simp) (by omega) hb0 ?_; intro A9 c9 w10 ho10 hg10; have HZ := Lib.hid (HFi.out _ _ _ ho10 (HG9.out.grown hg10 (fun q hq => by have := own_base HO9.out q hq; have := HGz.out.size; omega))); clear ho10 hg10)
          all_goals first | exact HZ.out | (go_ret; exact HZ.out)
        · have hjlt : j < cD := by omega
          have HRX : Hid (Row w9 (some ⟨bd, od + j, none⟩ : Option Addr) (iV (d.drop j))) := Lib.hid (by
            have h := row_dropI (HRD.out.grew HG9.out) j
            simpa [add_plain] using h)
          have HL1 : Hid ((iV (d.drop j)).length = (d.length - j) * 1) := Lib.hid (by simp [iV])
          have hb0 : wz.heap.size ≤ w9.heap.size := by omega
          go_wp2_with (at_builtin; refine wpList_appB rfl _ _ 25 3 1 rfl wz.heap.size (.int .i64 0) 8 Try.underlying25 infoI rfl (by decide) (by decide) _ s.length (iV s.reverse) rfl HO9.out _ (d.length - j) _ (iV (d.drop j)) rfl HL1.out HRX.out (iV_one _) (by omega) hb0 ?_; intro A9 c9 w10 ho10 hg10; have HZ := Lib.hid (HFi.out _ _ _ ho10 (HG9.out.grown hg10 (fun q hq => by have := own_base HO9.out q hq; have := HGz.out.size; omega))); clear ho10 hg10)
          all_goals first | exact HZ.out | (go_ret; exact HZ.out)
    · have e1 : decide ((j : Int) < (u.length : Int)) = false := decide_eq_false (by omega)
      have e1' : decide (j < u.length) = false := decide_eq_false h1
      have h1i : (u.length : Int) ≤ (j : Int) := by omega
      have HCp := Lib.hid (cplI_at u d j hju hjd HE.out (fun a _ => absurd a h1))
      go_upto_region 8 with fail
      refine wp_region_more (by kernel_rfl) (by kernel_rfl) ?_
      repeat (go_big_quiet_step ((fail)))
      refine wpQuiet_nil ?_
      rintro _ ⟨z, rfl⟩
      obtain ⟨c', hcj⟩ : ∃ c', j = c' + 1 := ⟨j - 1, by have := HC.out; have := HCp.out; omega⟩
      have HGz := Lib.hid (HG.out.more z)
      have hwj : IntKind.i64.wrap ((j : Int) - 1) = (c' : Int) := by rw [IntWalk.i64_in _ (by omega)]; omega
      have hcu1 : c' < u.length := by omega
      have hcc : c' < cU := by have := HcU.out; omega
      have HFin : Hid (R = (u.drop c').reverse ++ d.drop j) := Lib.hid (by rw [← HR.out]; unfold pathU; rw [HCp.out, hcj]; rfl)
      clear h1 e1 e1' h1i HE HR HCp hcj
      generalize more wr z = wz at *
      have hrdu : Row wz (some ⟨bu, ou + c', none⟩) (iV (u.drop c')) := by
        have h := row_dropI (HRU.out.grew HGz.out) c'
        simpa [add_plain] using h
      have HCl : Hid (Calls Try.prog 48 #[.slice (some ⟨bu, ou + c', none⟩) (u.length - c') (cU - c')] wz (OwnI wz (u.drop c'))) := Lib.hid (by
        have h := clone_ints (u.drop c') (by rw [List.length_drop]; omega) (some ⟨bu, ou + c', none⟩) (cU - c') wz hrdu
        rw [List.length_drop] at h
        exact h)
      clear hrdu
      go_upto_region 10 with fail
      go_wp2_with fail
      refine HCl.out.mono ?_
      rintro e w8 ⟨E, cE, rfl, hg8, ho8⟩
      have HG8 := Lib.hid (HGz.out.trans hg8)
      have HO8 := Lib.hid ho8
      have hwz := hg8.size
      clear hg8 ho8 HCl
      have hel : (u.drop c').length = u.length - c' := List.length_drop
      have hel2 : (u.drop c').length ≤ 1000 := by omega
      generalize u.drop c' = s at *
      have HEl := Lib.hid hel
      clear hel
      go_wp2_with fail
      refine (reverse_own s (by omega) E cE wz.heap.size w8 HO8.out).mono ?_
      rintro e w9 ⟨rfl, ho9, hb9⟩
      have hww : w.heap.size ≤ wz.heap.size := (HG7.out.trans HGz.out).size
      have HO9 := Lib.hid ho9
      have HG9 := Lib.hid ((HG8.out).grown hb9 (fun q hq => by have := own_base HO8.out q hq; have := HGz.out.size; omega))
      have hz9 := hb9.size
      have HLs : Hid (s.reverse.length = s.length) := Lib.hid List.length_reverse
      clear ho9 hb9 HO8
      have hdl : (d.drop j).length = d.length - j := List.length_drop
      have hj0 : (j : Int) ≤ (d.length : Int) := by omega
      have hjc : (j : Int) ≤ (cD : Int) := by have := HcD.out; omega
      have hw79 : w7.heap.size ≤ w9.heap.size := HG9.out.size
      have HFi : Hid (∀ A' c' W, W.ownsRow wz.heap.size 3 1 (.slice A' (s.length + (d.length - j)) c') (s.length + (d.length - j)) (iV s.reverse ++ iV (d.drop j)) → Grew w7 W → LisF w R (.returned (.slice A' (s.length + (d.length - j)) c')) W) := Lib.hid fun A' c' W h1 h2 => by
        have e : iV s.reverse ++ iV (d.drop j) = iV R := by rw [HFin.out]; simp [iV]
        have el : R.length = s.length + (d.length - j) := by rw [HFin.out, List.length_append, List.length_reverse, List.length_drop]
        rw [e] at h1
        exact ⟨A', c', by rw [el], HG7.out.trans h2, (TRow.own h1).low hww⟩
      have hs1000 : s.length ≤ 1000 := hel2
      have HB9 : Hid (w9.heap.size = w9.heap.size) := Lib.hid rfl
      by_cases hjcD : j = cD
      · subst hjcD
        have hjl : d.length - j = 0 := by have := HcD.out; omega
        have hd0 : d.drop j = [] := List.drop_of_length_le HcD.out
        rw [hjl, hd0] at HFi
        have hb0 : wz.heap.size ≤ w9.heap.size := by omega
        clear hd0 hdl
        go_upto_region 12 with fail
        go_wp2_with (at_builtin; refine wpList_appB rfl _ _ 25 3 1 rfl wz.heap.size (.int .i64 0) 8 Try.underlying25 infoI rfl (by decide) (by decide) _ s.length (iV s.reverse) rfl HO9.out _ 0 _ [] rfl rfl (Or.inl rfl) (by simp) (by omega) hb0 ?_; intro A9 c9 w10 ho10 hg10; have HZ := Lib.hid (HFi.out _ _ _ ho10 (HG9.out.grown hg10 (fun q hq => by have := own_base HO9.out q hq; have := HGz.out.size; omega))); clear ho10 hg10)
        all_goals first | exact HZ.out | (go_ret; exact HZ.out)
      · have hjlt : j < cD := by omega
        have HRX : Hid (Row w9 (some ⟨bd, od + j, none⟩ : Option Addr) (iV (d.drop j))) := Lib.hid (by
          have h := row_dropI (HRD.out.grew HG9.out) j
          simpa [add_plain] using h)
        have HL1 : Hid ((iV (d.drop j)).length = (d.length - j) * 1) := Lib.hid (by simp [iV])
        have hb0 : wz.heap.size ≤ w9.heap.size := by omega
        go_wp2_with (at_builtin; refine wpList_appB rfl _ _ 25 3 1 rfl wz.heap.size (.int .i64 0) 8 Try.underlying25 infoI rfl (by decide) (by decide) _ s.length (iV s.reverse) rfl HO9.out _ (d.length - j) _ (iV (d.drop j)) rfl HL1.out HRX.out (iV_one _) (by omega) hb0 ?_; intro A9 c9 w10 ho10 hg10; have HZ := Lib.hid (HFi.out _ _ _ ho10 (HG9.out.grown hg10 (fun q hq => by have := own_base HO9.out q hq; have := HGz.out.size; omega))); clear ho10 hg10)
        all_goals first | exact HZ.out | (go_ret; exact HZ.out)
end Go.Proofs.Ytpdkacfhnmfmaaa

namespace Go.Proofs.Ytpdkacfhnmfmaaa
open Go.RowKit
attribute [local go_sem] more_cell more_frozen more_more more_setCell more_of_drew more_of_drewN lt_more le_more past_cell past_cell2 past_frozen past_frozen2 past_setCell past_setCell2 mid_cell mid_frozen mid_setCell
attribute [local go_sem ↓] Go.wp_at_zero Go.wp_at_succ

theorem ex23_tree : treeB [-1, 0, 0, 1] = true := by decide
theorem ex23_up : (iI (wayN [-1, 0, 0, 1] 4 3)).reverse = [0, 1, 3] := by decide
theorem ex23_down : (iI (wayN [-1, 0, 0, 1] 4 2)).reverse = [0, 2] := by decide
theorem ex23_cpl : 1 ≤ cplI [0, 1, 3] [0, 2] := by decide
theorem ex23_path : pathU [0, 1, 3] [0, 2] = [3, 1, 0, 2] := by decide
theorem ex23_rooted : rootedL [-1, 0, 0, 1] 3 = [1, 3, 0, -1] := by decide
set_option maxHeartbeats 1000000 in
theorem live23_any (w : World) : Gives Try.prog 13 #[] w (.bool true) := by
  obtain ⟨w1, hw1⟩ : ∃ w1, w1 = w.alloc (.cells #[.int .i64 (-1), .int .i64 0, .int .i64 0, .int .i64 1] 3) := ⟨_, rfl⟩
  have HR1 : Hid (Row w1 (some ⟨w.heap.size, 0, none⟩) (iV [-1, 0, 0, 1])) := Lib.hid (by rw [hw1]; exact row_new w 3 w.heap.size #[.int .i64 (-1), .int .i64 0, .int .i64 0, .int .i64 1] rfl)
  have HG1 : Hid (Grew w w1) := Lib.hid (by rw [hw1]; exact (Grew.refl w).alloc _)
  have HP : Hid (Calls Try.prog 25 #[.slice (some ⟨w.heap.size, 0, none⟩) 4 4, .int .i64 3, .int .i64 2] w1 (LisF w1 [3, 1, 0, 2])) := Lib.hid (by
    obtain ⟨A2, k2, hT, rp2⟩ := tree23_any [-1, 0, 0, 1] 4 rfl (by decide) (some ⟨w.heap.size, 0, none⟩) 4 w1 HR1.out
    have he := held_end [-1, 0, 0, 1]
    rw [ex23_tree] at hT rp2 he
    have h := path23_yes (some ⟨w.heap.size, 0, none⟩) 4 4 [-1, 0, 0, 1] 4 rfl (by decide) A2 k2 3 2 (by decide) (by decide) w1 hT rp2 he [0, 1, 3] [0, 2] ex23_up ex23_down ex23_cpl
    rw [ex23_path] at h
    exact h)
  have HRo : Hid (∀ W, Grew w1 W → Calls Try.prog 27 #[.slice (some ⟨w.heap.size, 0, none⟩) 4 4, .int .i64 3] W (LisF W [1, 3, 0, -1])) := Lib.hid fun W hW => by
    have h := rooted23_any [-1, 0, 0, 1] 4 rfl (by decide) (some ⟨w.heap.size, 0, none⟩) 4 3 W (HR1.out.grew hW)
    rw [ex23_tree] at h
    have e : rootedL (heldL true [-1, 0, 0, 1]) 3 = [1, 3, 0, -1] := ex23_rooted
    rw [e] at h
    exact h
  clear HR1
  unfold Gives
  go_enter Try.func13, Try.ntmps13
  go_upto_region 2 with fail
  rw [← hw1]
  clear hw1
  generalize w.heap.size = b0 at *
  go_wp2_with fail
  refine HP.out.mono ?_
  rintro e w2 ⟨A2, k2, rfl, hg2, ht2⟩
  have HG2 := Lib.hid (HG1.out.trans hg2)
  have HG12 := Lib.hid hg2
  have HS2 : Hid (Gives Try.prog 18 #[.slice A2 4 k2, .slice (some ⟨w2.heap.size, 0, none⟩) 4 4] (w2.alloc (.cells #[.int .i64 3, .int .i64 1, .int .i64 0, .int .i64 2] 3)) (.bool true)) := Lib.hid (samelist_any [3, 1, 0, 2] [3, 1, 0, 2] A2 (some ⟨w2.heap.size, 0, none⟩) k2 4 _ (ht2.plain.grew ((Grew.refl w2).alloc _)) (row_new w2 3 w2.heap.size #[.int .i64 3, .int .i64 1, .int .i64 0, .int .i64 2] rfl) (by decide) (by decide))
  clear hg2 ht2 HP HG1
  go_wp2_with fail
  refine HS2.out.grows.mono ?_
  rintro e w3 ⟨rfl, hg3⟩
  have HG3 := Lib.hid (((Grew.refl w2).alloc _).trans hg3)
  clear hg3 HS2
  go_wp2_with fail
  refine (HRo.out _ (HG12.out.trans HG3.out)).mono ?_
  rintro e w4 ⟨A4, k4, rfl, hg4, ht4⟩
  have HG4 := Lib.hid ((HG2.out.trans HG3.out).trans hg4)
  have HS4 : Hid (Gives Try.prog 18 #[.slice A4 4 k4, .slice (some ⟨w4.heap.size, 0, none⟩) 4 4] (w4.alloc (.cells #[.int .i64 1, .int .i64 3, .int .i64 0, .int .i64 (-1)] 3)) (.bool true)) := Lib.hid (samelist_any [1, 3, 0, -1] [1, 3, 0, -1] A4 (some ⟨w4.heap.size, 0, none⟩) k4 4 _ (ht4.plain.grew ((Grew.refl w4).alloc _)) (row_new w4 3 w4.heap.size #[.int .i64 1, .int .i64 3, .int .i64 0, .int .i64 (-1)] rfl) (by decide) (by decide))
  clear hg4 ht4 HRo HG2 HG3 HG12
  go_wp2_with fail
  refine HS4.out.grows.mono ?_
  rintro e w5 ⟨rfl, hg5⟩
  have HG5 := Lib.hid ((HG4.out.alloc _).trans hg5)
  clear hg5 HS4
  go_wp2
  go_ret
  exact ⟨rfl, HG5.out⟩
set_option maxHeartbeats 1000000 in
theorem near23_of (p : List Int) (n : Nat) (hn : p.length = n) (A : Option Addr) (k : Nat) (a b : Nat) (ha : a < n) (hb : b < n) (w : World) (rp : Row w A (iV p)) : Gives Try.prog 28 #[.slice A n k, .int .i64 a, .int .i64 b] w (.bool (nearB p a b)) := by
  obtain ⟨ba, oa, rfl, hba, hca⟩ := rowI_at rp (show a < p.length by omega)
  obtain ⟨hbb, hcb⟩ := irow_cell rp (show b < (p).length by omega) rfl
  have e1 : p.getD a 0 = p[a]'(by omega) := by rw [List.getD_eq_getElem?_getD, List.getElem?_eq_getElem (by omega)]; rfl
  have e2 : p.getD b 0 = p[b]'(by omega) := by rw [List.getD_eq_getElem?_getD, List.getElem?_eq_getElem (by omega)]; rfl
  obtain ⟨t, ht⟩ : ∃ t, nearB p a b = t := ⟨_, rfl⟩
  have ht2 : (decide (p[a]'(by omega) = (b : Int)) || decide (p[b]'(by omega) = (a : Int))) = t := by rw [← ht, ← e1, ← e2]; rfl
  rw [ht]
  have HTt := Lib.hid ht2
  obtain ⟨x, hx0⟩ : ∃ x, p[a]'(by omega) = x := ⟨_, rfl⟩
  obtain ⟨y, hy0⟩ : ∃ y, p[b]'(by omega) = y := ⟨_, rfl⟩
  rw [hx0] at hca HTt
  rw [hy0] at hcb HTt
  clear ht ht2 e1 e2 rp hx0 hy0
  have a1 : decide ((a : Int) < 0) = false := decide_eq_false (by omega)
  have a2 : decide ((n : Int) ≤ (a : Int)) = false := decide_eq_false (by omega)
  have a2n : decide (n ≤ a) = false := decide_eq_false (by omega)
  have b1 : decide ((b : Int) < 0) = false := decide_eq_false (by omega)
  have b2 : decide ((n : Int) ≤ (b : Int)) = false := decide_eq_false (by omega)
  have b2n : decide (n ≤ b) = false := decide_eq_false (by omega)
  have hG : Grew w w := Grew.refl w
  have HG := Lib.hid hG
  clear hn hG
  unfold Gives
  by_cases hx : x = (b : Int)
  · obtain rfl : true = t := by rw [← HTt.out, decide_eq_true hx]; rfl
    have hxb : (x == (b : Int)) = true := by rw [beq_iff_eq]; exact hx
    clear HTt
    subst hx
    go_enter Try.func28, Try.ntmps28
    go_wp2
    go_ret
    exact ⟨rfl, HG.out⟩
  · have hxb : (x == (b : Int)) = false := beq_eq_false_iff_ne.2 hx
    by_cases hy : y = (a : Int)
    · obtain rfl : true = t := by rw [← HTt.out, decide_eq_true hy, Bool.or_true]
      subst hy
      clear HTt
      go_enter Try.func28, Try.ntmps28
      go_wp2
      go_ret
      exact ⟨rfl, HG.out⟩
    · obtain rfl : false = t := by rw [← HTt.out, decide_eq_false hx, decide_eq_false hy]; rfl
      have hyb : (y == (a : Int)) = false := beq_eq_false_iff_ne.2 hy
      clear HTt
      go_enter Try.func28, Try.ntmps28
      go_wp2
      go_ret
      exact ⟨rfl, HG.out⟩
end Go.Proofs.Ytpdkacfhnmfmaaa
