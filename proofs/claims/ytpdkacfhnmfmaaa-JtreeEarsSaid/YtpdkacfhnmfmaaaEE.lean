/- Layer 22: the law of ears. Condition: numbers that an int holds. -/
import Derived.Test.YtpdkacfhnmfmaaaGG
import Derived.WalkMore

/- Layer 22: ears: plain mathematics. No condition. -/
namespace Go.Proofs.Ytpdkacfhnmfmaaa

def thB (l : List Bool) (k : Nat) : Bool := l.getD k false
theorem thB_lt {l : List Bool} {k : Nat} (h : thB l k = true) : k < l.length := by
  rcases Nat.lt_or_ge k l.length with h1 | h1
  · exact h1
  · unfold thB at h
    rw [List.getD_eq_getElem?_getD, List.getElem?_eq_none h1] at h
    cases h
theorem thB_at {l : List Bool} {k : Nat} (h : k < l.length) : thB l k = l[k] := by
  unfold thB
  rw [List.getD_eq_getElem?_getD, List.getElem?_eq_getElem h]
  rfl
theorem thB_set {l : List Bool} {i k : Nat} : thB (l.set i false) k = (thB l k && (k != i)) := by
  unfold thB
  rw [List.getD_eq_getElem?_getD, List.getD_eq_getElem?_getD, List.getElem?_set]
  by_cases e : i = k
  · subst e
    by_cases h : i < l.length
    · simp [h]
    · simp [h]
  · rw [if_neg e]
    have : (k != i) = true := by simpa using fun e' => e e'.symm
    rw [this, Bool.and_true]
/-- What one has in common with another that is there lies within a third. -/
def earOk (h : List (List Int)) (l : List Bool) (i p : Nat) : Bool :=
  (List.range h.length).all fun k => !(k != i && thB l k) || withinI (sharedI (edgeAt h i) (edgeAt h k)) (edgeAt h p)
theorem earOk_iff {h : List (List Int)} {l : List Bool} {i p : Nat} : earOk h l i p = true ↔ ∀ k, k < h.length → k ≠ i → thB l k = true → ∀ x, x ∈ edgeAt h i → x ∈ edgeAt h k → x ∈ edgeAt h p := by
  unfold earOk
  rw [List.all_eq_true]
  constructor
  · intro H k hk hki hl x h1 h2
    have := H k (List.mem_range.2 hk)
    have e : (k != i) = true := by simpa using hki
    rw [e, hl] at this
    simp only [Bool.and_self, Bool.not_true, Bool.false_or, withinI_iff] at this
    exact this x ((sharedI_mem _ _ _).2 ⟨h1, h2⟩)
  · intro H k hk
    by_cases e : k = i
    · subst e; simp
    · cases hl : thB l k
      · simp
      · have e' : (k != i) = true := by simpa using e
        rw [e']
        simp only [Bool.and_self, Bool.not_true, Bool.false_or, withinI_iff]
        intro x hx
        rw [sharedI_mem] at hx
        exact H k (List.mem_range.1 hk) e hl x hx.1 hx.2
def earQ (h : List (List Int)) (l : List Bool) (i p : Nat) : Bool := p != i && thB l p && earOk h l i p
/-- An ear's parent. -/
def earP (h : List (List Int)) (l : List Bool) (i : Nat) : Option Nat := if decide (i < h.length) && thB l i then (List.range h.length).find? (earQ h l i) else none
theorem find_someN {n k : Nat} {q : Nat → Bool} (hk : k < n) (hq : q k = true) (hb : ∀ j, j < k → q j = false) : (List.range n).find? q = some k := by
  rw [List.find?_range_eq_some]
  exact ⟨hq, List.mem_range.2 hk, fun j hj => by rw [hb j hj]; rfl⟩
theorem find_noneN {n : Nat} {q : Nat → Bool} (hb : ∀ j, j < n → q j = false) : (List.range n).find? q = none := by
  rw [List.find?_range_eq_none]
  exact fun j hj => by rw [hb j hj]; rfl
/-- All of the others, up to one. -/
def othI (h : List (List Int)) (l : List Bool) (i : Nat) : Nat → List Int
  | 0 => []
  | m + 1 => if m != i && thB l m then othI h l i m ++ edgeAt h m else othI h l i m
theorem othI_mem {h : List (List Int)} {l : List Bool} {i m : Nat} {x : Int} : x ∈ othI h l i m ↔ ∃ k, k < m ∧ k ≠ i ∧ thB l k = true ∧ x ∈ edgeAt h k := by
  induction m with
  | zero => simp [othI]
  | succ m ih =>
    unfold othI
    split
    · rename_i hc
      simp only [Bool.and_eq_true, bne_iff_ne, ne_eq] at hc
      rw [List.mem_append, ih]
      constructor
      · rintro (⟨k, h1, h2⟩ | h1)
        · exact ⟨k, by omega, h2⟩
        · exact ⟨m, by omega, hc.1, hc.2, h1⟩
      · rintro ⟨k, h1, h2, h3, h4⟩
        by_cases e : k = m
        · subst e; exact Or.inr h4
        · exact Or.inl ⟨k, by omega, h2, h3, h4⟩
    · rename_i hc
      rw [ih]
      constructor
      · rintro ⟨k, h1, h2⟩
        exact ⟨k, by omega, h2⟩
      · rintro ⟨k, h1, h2, h3, h4⟩
        refine ⟨k, ?_, h2, h3, h4⟩
        by_cases e : k = m
        · subst e
          refine absurd ?_ hc
          simp [h2, h3]
        · omega
theorem othI_len {h : List (List Int)} {l : List Bool} {i : Nat} (hl : ∀ e ∈ h, e.length ≤ 30) (m : Nat) : (othI h l i m).length ≤ m * 30 := by
  induction m with
  | zero => exact Nat.le_refl _
  | succ m ih =>
    have he : (edgeAt h m).length ≤ 30 := by
      unfold edgeAt
      rw [List.getD_eq_getElem?_getD]
      cases e : h[m]? with
      | none => exact Nat.zero_le _
      | some x => exact hl x (List.mem_of_getElem? e)
    unfold othI
    split
    · rw [List.length_append]; omega
    · omega
theorem oth_within (h : List (List Int)) (l : List Bool) (i p : Nat) : withinI (sharedI (edgeAt h i) (othI h l i h.length)) (edgeAt h p) = earOk h l i p := by
  rw [Bool.eq_iff_iff, withinI_iff, earOk_iff]
  constructor
  · intro H k hk hki hl x h1 h2
    exact H x ((sharedI_mem _ _ _).2 ⟨h1, othI_mem.2 ⟨k, hk, hki, hl, h2⟩⟩)
  · intro H x hx
    rw [sharedI_mem, othI_mem] at hx
    obtain ⟨h1, k, hk, hki, hl, h2⟩ := hx
    exact H k hk hki hl x h1 h2
/-- The next ear. -/
def stepE (h : List (List Int)) (l : List Bool) : Option (Nat × Nat) :=
  match (List.range h.length).find? fun i => (earP h l i).isSome with
  | none => none
  | some i => (earP h l i).map fun p => (i, p)
theorem stepE_some {h : List (List Int)} {l : List Bool} {i p : Nat} (hi : i < h.length) (hp : earP h l i = some p) (hb : ∀ j, j < i → earP h l j = none) : stepE h l = some (i, p) := by
  unfold stepE
  rw [find_someN hi (by rw [hp]; rfl) (fun j hj => by rw [hb j hj]; rfl)]
  simp [hp]
theorem stepE_none {h : List (List Int)} {l : List Bool} (hb : ∀ j, j < h.length → earP h l j = none) : stepE h l = none := by
  unfold stepE
  rw [find_noneN fun j hj => by rw [hb j hj]; rfl]
theorem stepE_inv {h : List (List Int)} {l : List Bool} {i p : Nat} (hs : stepE h l = some (i, p)) : i < h.length ∧ earP h l i = some p := by
  unfold stepE at hs
  split at hs
  · cases hs
  · rename_i k hk
    rw [List.find?_range_eq_some] at hk
    cases he : earP h l k with
    | none => rw [he] at hs; cases hs
    | some q =>
      rw [he] at hs
      simp only [Option.map_some] at hs
      injection hs with hs
      injection hs with h1 h2
      subst h1 h2
      exact ⟨List.mem_range.1 hk.2.1, he⟩
theorem earP_inv {h : List (List Int)} {l : List Bool} {i p : Nat} (he : earP h l i = some p) : i < h.length ∧ thB l i = true ∧ p < h.length ∧ p ≠ i ∧ thB l p = true ∧ earOk h l i p = true := by
  unfold earP at he
  split at he
  · rename_i hc
    rw [List.find?_range_eq_some] at he
    simp only [Bool.and_eq_true, decide_eq_true_eq] at hc
    obtain ⟨h1, h2, _⟩ := he
    unfold earQ at h1
    simp only [Bool.and_eq_true, bne_iff_ne, ne_eq] at h1
    exact ⟨hc.1, hc.2, List.mem_range.1 h2, h1.1.1, h1.1.2, h1.2⟩
  · cases he
/-- The ears, one after the other, and what is left. -/
def earsS (h : List (List Int)) : Nat → List (Nat × Nat) × List Bool
  | 0 => ([], List.replicate h.length true)
  | k + 1 => match stepE h (earsS h k).2 with
    | none => earsS h k
    | some (i, p) => ((earsS h k).1 ++ [(i, p)], (earsS h k).2.set i false)
theorem earsS_none {h : List (List Int)} {k : Nat} (hs : stepE h (earsS h k).2 = none) : earsS h (k + 1) = earsS h k := by
  show (match stepE h (earsS h k).2 with | none => earsS h k | some (i, p) => ((earsS h k).1 ++ [(i, p)], (earsS h k).2.set i false)) = _
  rw [hs]
theorem earsS_some {h : List (List Int)} {k i p : Nat} (hs : stepE h (earsS h k).2 = some (i, p)) : earsS h (k + 1) = ((earsS h k).1 ++ [(i, p)], (earsS h k).2.set i false) := by
  show (match stepE h (earsS h k).2 with | none => earsS h k | some (i, p) => ((earsS h k).1 ++ [(i, p)], (earsS h k).2.set i false)) = _
  rw [hs]
theorem earsS_len (h : List (List Int)) (k : Nat) : (earsS h k).2.length = h.length := by
  induction k with
  | zero => simp [earsS]
  | succ k ih =>
    cases hs : stepE h (earsS h k).2 with
    | none => rw [earsS_none hs]; exact ih
    | some q => rw [earsS_some hs]; simpa using ih
theorem count_off {l : List Bool} {i : Nat} (h : thB l i = true) : (l.set i false).count true + 1 = l.count true := by
  have hl := thB_lt h
  rw [thB_at hl] at h
  have h1 := List.count_set (a := false) (b := true) hl
  have h2 : 0 < l.count true := List.count_pos_iff.2 (by rw [← h]; exact List.getElem_mem hl)
  rw [h1, h]
  simp
  omega
theorem earsS_count (h : List (List Int)) (k : Nat) : (earsS h k).1.length + (earsS h k).2.count true = h.length := by
  induction k with
  | zero => simp [earsS]
  | succ k ih =>
    cases hs : stepE h (earsS h k).2 with
    | none => rw [earsS_none hs]; exact ih
    | some q =>
      rw [earsS_some hs]
      have := count_off (earP_inv (stepE_inv hs).2).2.1
      simp only [List.length_append, List.length_singleton]
      omega
theorem earsS_stop {h : List (List Int)} {k : Nat} (hs : stepE h (earsS h k).2 = none) (m : Nat) : earsS h (k + m) = earsS h k := by
  induction m with
  | zero => rfl
  | succ m ih =>
    have : stepE h (earsS h (k + m)).2 = none := by rw [ih]; exact hs
    rw [← Nat.add_assoc, earsS_none this, ih]
theorem earsS_end {h : List (List Int)} {k : Nat} (hl : (earsS h k).1.length = k) (hs : stepE h (earsS h k).2 = none) : earsS h h.length = earsS h k := by
  have := earsS_count h k
  have e := earsS_stop hs (h.length - k)
  rwa [show k + (h.length - k) = h.length by omega] at e
theorem earsS_le (h : List (List Int)) (k : Nat) : (earsS h k).1.length ≤ h.length := by
  have := earsS_count h k
  omega
/-- Which are left, in order. -/
def leftL (l : List Bool) : Nat → List Int
  | 0 => []
  | m + 1 => if thB l m then leftL l m ++ [(m : Int)] else leftL l m
theorem leftL_len (l : List Bool) (m : Nat) (hm : m ≤ l.length) : (leftL l m).length = (l.take m).count true := by
  induction m with
  | zero => simp [leftL]
  | succ m ih =>
    have hml : m < l.length := by omega
    unfold leftL
    rw [List.take_succ_eq_append_getElem hml, List.count_append, ← ih (by omega)]
    rw [thB_at hml]
    split
    · rename_i hc
      rw [hc]
      simp
    · rename_i hc
      have : l[m] = false := by simpa using hc
      rw [this]
      simp
def leftI (h : List (List Int)) : List Int := leftL (earsS h h.length).2 h.length
theorem leftI_len (h : List (List Int)) : (leftI h).length + (earsS h h.length).1.length = h.length := by
  unfold leftI
  rw [leftL_len _ _ (by rw [earsS_len]; exact Nat.le_refl _)]
  have h1 := earsS_count h h.length
  have h2 := earsS_len h h.length
  rw [List.take_of_length_le (by omega)]
  omega
end Go.Proofs.Ytpdkacfhnmfmaaa

/- Layer 22: is an edge there, is it an ear, by the program. Condition: no more than a thousand edges of no more than thirty numbers each. -/
namespace Go.Proofs.Ytpdkacfhnmfmaaa
open Go.RowKit
attribute [local go_sem] more_cell more_frozen more_more more_setCell more_of_drew more_of_drewN lt_more le_more past_cell past_cell2 past_frozen past_frozen2 past_setCell past_setCell2 mid_cell mid_frozen mid_setCell
attribute [local go_sem ↓] Go.wp_at_zero Go.wp_at_succ

def bL (l : List Bool) : List Value := l.map Value.bool
theorem bL_len (l : List Bool) : (bL l).length = l.length := by simp [bL]
theorem boolrow_at {w : World} {B : Option Addr} {l : List Bool} {j : Nat} (h : Row w B (bL l)) (hj : j < l.length) : ∃ b o, B = some ⟨b, o, none⟩ ∧ b < w.heap.size ∧ w.cell? ⟨b, o + j, none⟩ = some (.bool (thB l j)) := by
  obtain ⟨b, o, hA, hb, hc⟩ := Row.at_ h (k := j) (by simpa [bL] using hj)
  refine ⟨b, o, hA, hb, ?_⟩
  rw [hc, thB_at hj]
  simp [bL]
/-- Is an edge there still, of n? -/
def thI (n : Nat) (l : List Bool) (i : Int) : Bool := decide (0 ≤ i) && decide (i < n) && thB l i.toNat
theorem thI_nat {n j : Nat} {l : List Bool} (h : j < n) : thI n l (j : Int) = thB l j := by
  unfold thI
  rw [decide_eq_true (by omega), decide_eq_true (by omega), Int.toNat_natCast]
  rfl
theorem thB_out {l : List Bool} {k : Nat} (h : ¬ k < l.length) : thB l k = false := by
  cases e : thB l k
  · rfl
  · exact absurd (thB_lt e) h
theorem there_any (n : Nat) (l : List Bool) (A B : Option Addr) (k c : Nat) (i : Int) (w : World) (rb : Row w B (bL l)) :
    Gives Try.prog 70 #[.slice A n k, .slice B l.length c, .int .i64 i] w (.bool (thI n l i)) := by
  have RB := Lib.hid rb
  obtain ⟨t, ht⟩ : ∃ t, thI n l i = t := ⟨_, rfl⟩
  rw [ht]
  have HT := Lib.hid ht
  clear rb ht
  unfold Gives
  by_cases h0 : 0 ≤ i
  · obtain ⟨j, rfl⟩ : ∃ j : Nat, i = (j : Int) := ⟨i.toNat, by omega⟩
    have e0 : decide ((0 : Int) ≤ (j : Int)) = true := decide_eq_true h0
    by_cases h1 : (j : Int) < n
    · have e1 : decide ((j : Int) < (n : Int)) = true := decide_eq_true h1
      by_cases h2 : (j : Int) < l.length
      · have e2 : decide ((j : Int) < (l.length : Int)) = true := decide_eq_true h2
        obtain ⟨b, o, rfl, hb, hc⟩ := boolrow_at RB.out (show j < l.length by omega)
        obtain rfl : t = thB l j := by rw [← HT.out, thI_nat (by omega)]
        clear HT
        generalize thB l j = q at *
        go_enter Try.func70, Try.ntmps70
        go_wp2
        go_ret
        exact ⟨rfl, by (show Grew _ _; repeat (first | exact Grew.refl _ | refine Grew.alloc ?_ _ | refine Grew.drew ?_ | refine Grew.more ?_ _))⟩
      · have e2 : decide ((j : Int) < (l.length : Int)) = false := decide_eq_false h2
        obtain rfl : t = false := by rw [← HT.out, thI_nat (by omega), thB_out (by omega)]
        have h2' : (l.length : Int) ≤ j := by omega
        clear HT h2
        go_enter Try.func70, Try.ntmps70
        go_wp2
        go_ret
        exact ⟨rfl, by (show Grew _ _; repeat (first | exact Grew.refl _ | refine Grew.alloc ?_ _ | refine Grew.drew ?_ | refine Grew.more ?_ _))⟩
    · have e1 : decide ((j : Int) < (n : Int)) = false := decide_eq_false h1
      obtain rfl : t = false := by rw [← HT.out]; unfold thI; rw [decide_eq_false h1]; simp
      have h1' : (n : Int) ≤ j := by omega
      clear HT h1
      go_enter Try.func70, Try.ntmps70
      go_wp2
      go_ret
      exact ⟨rfl, by (show Grew _ _; repeat (first | exact Grew.refl _ | refine Grew.alloc ?_ _ | refine Grew.drew ?_ | refine Grew.more ?_ _))⟩
  · have e0 : decide ((0 : Int) ≤ i) = false := decide_eq_false h0
    obtain rfl : t = false := by rw [← HT.out]; unfold thI; rw [e0]; simp
    have h0' : i < 0 := by omega
    clear HT h0
    go_enter Try.func70, Try.ntmps70
    go_wp2
    go_ret
    exact ⟨rfl, by (show Grew _ _; repeat (first | exact Grew.refl _ | refine Grew.alloc ?_ _ | refine Grew.drew ?_ | refine Grew.more ?_ _))⟩
/-- An ear's parent, and whether it is one. -/
def earR (h : List (List Int)) (l : List Bool) (i : Int) : Option Nat := if 0 ≤ i then earP h l i.toNat else none
def earT (o : Option Nat) : Value := .tuple #[.int .i64 (match o with | some p => (p : Int) | none => 0), .bool o.isSome]
theorem earR_not {h : List (List Int)} {l : List Bool} {i : Int} (ht : thI h.length l i = false) : earR h l i = none := by
  unfold earR
  split
  · rename_i h0
    unfold earP
    rw [if_neg]
    unfold thI at ht
    rw [decide_eq_true h0, Bool.true_and] at ht
    intro hc
    rw [Bool.and_eq_true, decide_eq_true_eq] at hc
    rw [decide_eq_true (by omega), hc.2] at ht
    cases ht
  · rfl
theorem thI_in {n : Nat} {l : List Bool} {i : Int} (ht : thI n l i = true) : ∃ j : Nat, i = (j : Int) ∧ j < n ∧ thB l j = true := by
  unfold thI at ht
  simp only [Bool.and_eq_true, decide_eq_true_eq] at ht
  exact ⟨i.toNat, by omega, by omega, ht.2⟩
theorem othI_in {h : List (List Int)} {l : List Bool} {i m : Nat} (hm : m ≠ i) (ht : thB l m = true) : othI h l i (m + 1) = othI h l i m ++ edgeAt h m := by
  show (if m != i && thB l m then othI h l i m ++ edgeAt h m else othI h l i m) = _
  rw [if_pos (by simp [hm, ht])]
theorem othI_out {h : List (List Int)} {l : List Bool} {i m : Nat} (hm : m = i ∨ thB l m = false) : othI h l i (m + 1) = othI h l i m := by
  show (if m != i && thB l m then othI h l i m ++ edgeAt h m else othI h l i m) = _
  rw [if_neg]
  rcases hm with rfl | hm
  · simp
  · simp [hm]
theorem othI_wf {h : List (List Int)} {l : List Bool} {i : Nat} (hw : wfG h) (m : Nat) : wfL (othI h l i m) := fun x hx => by
  obtain ⟨k, hk, _, _, hx⟩ := othI_mem.1 hx
  unfold edgeAt at hx
  rw [List.getD_eq_getElem?_getD] at hx
  cases e : h[k]? with
  | none => rw [e] at hx; cases hx
  | some y => rw [e] at hx; exact hw y (List.mem_of_getElem? e) x hx
def OtAt (u : World) (F : Nat → List Int) (n : Nat) (v i : Value) (wr : World) : Prop := ∃ (m : Nat) (A : Option Addr) (c : Nat), m ≤ n ∧ v = .slice A (F m).length c ∧ i = .int .i64 m ∧ Grew u wr ∧ wr.ownsRow u.heap.size 3 1 (.slice A (F m).length c) (F m).length (iV (F m))
def EaAt (u : World) (q : Nat → Bool) (n : Nat) (i : Value) (wr : World) : Prop := ∃ m : Nat, m ≤ n ∧ i = .int .i64 m ∧ Grew u wr ∧ ∀ j, j < m → q j = false
theorem iV_append (a b : List Int) : iV a ++ iV b = iV (a ++ b) := by simp [iV]
theorem iV_cells (l : List Int) : ∀ u ∈ iV l, u.oneCell' = true := by
  intro u hu
  obtain ⟨x, _, rfl⟩ := List.mem_map.1 hu
  rfl
set_option maxHeartbeats 2000000 in
set_option maxRecDepth 100000 in
theorem ear22_any (h : List (List Int)) (n : Nat) (hn : h.length = n) (hn1 : n ≤ 1000) (hw : wfG h) (hel : ∀ e ∈ h, e.length ≤ 30) (l : List Bool) (A B : Option Addr) (k c : Nat) (i : Int) (w : World) (ra : GridI (PRow w) A h) (rb : Row w B (bL l)) :
    Gives Try.prog 64 #[.slice A n k, .slice B l.length c, .int .i64 i] w (earT (earR h l i)) := by
  have RA := Lib.hid ra
  have HW := Lib.hid hw
  have HEl := Lib.hid hel
  have HN := Lib.hid hn
  have HTh := Lib.hid (fun i W (hW : Grew w W) => there_any n l A B k c i W (rb.grew hW))
  unfold Gives
  by_cases ht : thI n l i = true
  rotate_left
  · have ht0 : thI n l i = false := by simpa using ht
    have HThi := Lib.hid (HTh.out i)
    rw [earR_not (by rw [hn]; exact ht0)]
    rw [ht0] at HThi
    clear ra rb hw hel hn ht ht0
    unfold earT
    go_enter Try.func64, Try.ntmps64
    go_wp2_with (go_at_call 70; (with_reducible refine (HThi.out _ (Grew.refl _)).grows.mono ?_); rintro e w6 ⟨rfl, hg6⟩; have HG6 := Lib.hid hg6; clear hg6)
    go_ret2
    exact ⟨rfl, HG6.out⟩
  obtain ⟨i, rfl, hi, hti⟩ := thI_in ht
  have HThi := Lib.hid (HTh.out i)
  rw [ht] at HThi
  have HTn : Hid (∀ (m : Nat), m < n → ∀ W, Grew w W → Gives Try.prog 70 #[.slice A n k, .slice B l.length c, .int .i64 (m : Int)] W (.bool (thB l m))) := Lib.hid fun m hm W hW => by
    have := HTh.out m W hW
    rwa [thI_nat hm] at this
  have HSome : Hid (∀ m, m < n → earQ h l i m = true → (∀ j, j < m → earQ h l i j = false) → earR h l (i : Int) = some m) := Lib.hid fun m hm hq hb => by
    unfold earR
    rw [if_pos (by omega), Int.toNat_natCast]
    unfold earP
    rw [if_pos (by rw [hn, hti, decide_eq_true hi]; rfl), find_someN (by omega) hq hb]
  have HNone : Hid ((∀ j, j < n → earQ h l i j = false) → earR h l (i : Int) = none) := Lib.hid fun hb => by
    unfold earR
    rw [if_pos (by omega), Int.toNat_natCast]
    unfold earP
    split
    · rw [find_noneN (by rw [hn]; exact hb)]
    · rfl
  have HLen : Hid (∀ m, m ≤ n → (othI h l i m).length ≤ 30000) := Lib.hid fun m hm => Nat.le_trans (othI_len hel m) (by omega)
  have HOk : Hid (∀ m, withinI (sharedI (edgeAt h i) (othI h l i n)) (edgeAt h m) = earOk h l i m) := Lib.hid fun m => by rw [← hn]; exact oth_within h l i m
  have HOw := Lib.hid (othI_wf (h := h) (l := l) (i := i) hw n)
  clear ra rb hw hel hn ht hti HTh
  generalize earR h l (i : Int) = fin at *
  have HO0 : Hid (∀ W : World, W.ownsRow w.heap.size 3 1 (.slice none (othI h l i 0).length 0) (othI h l i 0).length (iV (othI h l i 0))) := Lib.hid fun (W : World) => own_none W _ _ 1
  go_enter Try.func64, Try.ntmps64
  go_wp2_with (go_at_call 70; (with_reducible refine (HThi.out _ (Grew.refl _)).grows.mono ?_); rintro e w6 ⟨rfl, hg6⟩; have HG6 := Lib.hid hg6; clear hg6)
  go_loopw [8, 19] (fun v x wr => OtAt w (othI h l i) n v x wr) (fun _ x _ => n - (intOf x).toNat)
  case atStart => exact ⟨0, none, 0, Nat.zero_le _, rfl, rfl, HG6.out, HO0.out _⟩
  case round =>
    obtain ⟨m, A8, c8, hm, rfl, rfl, hg, ho⟩ := hrel
    have HG := Lib.hid hg
    have HO := Lib.hid ho
    clear hg ho HG6 HO0
    have hlm := HLen.out m hm
    by_cases h1 : m < n
    · have hmh : m < h.length := by rw [HN.out]; exact h1
      by_cases hmi : m = i
      · have em : ((m : Int) != (i : Int)) = false := by simp [hmi]
        have HT := Lib.hid (othI_out (h := h) (l := l) (i := i) (m := m) (Or.inl hmi))
        clear hmi hmh
        generalize hoo : othI h l i m = oo at *
        clear hoo
        go_wp2
        exact ⟨⟨m + 1, A8, c8, by omega, by rw [HT.out], by go_num, HG.out, by rw [HT.out]; exact HO.out⟩, by simp only [intOf]; omega⟩
      · have em : ((m : Int) != (i : Int)) = true := by simp; omega
        have HThm := Lib.hid (HTn.out m h1)
        rcases htm : thB l m with _ | _
        · rw [htm] at HThm
          have HT := Lib.hid (othI_out (h := h) (l := l) (i := i) (m := m) (Or.inr htm))
          clear hmi hmh htm
          generalize hoo : othI h l i m = oo at *
          clear hoo
          go_wp2_with (go_at_call 70; (with_reducible refine (HThm.out _ HG.out).grows.mono ?_); rintro e w7 ⟨rfl, hg7⟩; have HG7 := Lib.hid (HG.out.trans hg7); have HO7 := Lib.hid (own_grewU HO.out hg7); clear hg7)
          exact ⟨⟨m + 1, A8, c8, by omega, by rw [HT.out], by go_num, HG7.out, by rw [HT.out]; exact HO7.out⟩, by simp only [intOf]; omega⟩
        · rw [htm] at HThm
          have HT0 := othI_in (h := h) (l := l) (i := i) hmi htm
          rw [edgeAt_eq hmh] at HT0
          have HT := Lib.hid HT0
          obtain ⟨b, o, D, d, rfl, hb0, hc0, hr0⟩ := gridI_at RA.out hmh
          have he30 := HEl.out _ (List.getElem_mem hmh)
          have HR0 := Lib.hid (fun W (hW : Grew w W) => hr0.grew hW)
          have HC0 := Lib.hid (fun W (hW : Grew w W) => (hW.cell (a := ⟨b, o + m, none⟩) hb0).trans hc0)
          clear hmi htm HT0 hc0 hr0
          generalize h[m] = ed at *
          clear hmh
          generalize hoo : othI h l i m = oo at *
          clear hoo
          go_wp2_with (first | (go_at_call 70; (with_reducible refine (HThm.out _ HG.out).grows.mono ?_); rintro e w7 ⟨rfl, hg7⟩; have HG7 := Lib.hid (HG.out.trans hg7); have HO7 := Lib.hid (own_grewU HO.out hg7); have hb7 := Nat.lt_of_lt_of_le hb0 HG7.out.size; have hc7 := HC0.out _ HG7.out; have HR7 := Lib.hid (HR0.out _ HG7.out); clear hg7) | (at_builtin; refine wpList_app rfl _ _ 25 3 rfl w (.int .i64 0) 8 Try.underlying25 infoI rfl (by decide) _ oo.length (iV oo) rfl HO7.out D ed.length d (iV ed) rfl (iV_len _) HR7.out (iV_cells _) (by omega) HG7.out ?_; intro A9 c9 w9 ho9 hr9 hg9 hgb9 hor9; have HG9 := Lib.hid hg9; have HO9 := Lib.hid ho9; clear ho9 hr9 hg9 hgb9 hor9))
          exact ⟨⟨m + 1, A9, c9, by omega, by rw [HT.out, List.length_append], by go_num, HG9.out, by rw [HT.out, List.length_append, ← iV_append]; exact HO9.out⟩, by simp only [intOf]; omega⟩
    · obtain rfl : m = n := by omega
      have hih : i < h.length := by rw [HN.out]; exact hi
      obtain ⟨b, o, D, d, rfl, hb0, hc0, hr0⟩ := gridI_at RA.out hih
      have he30 := HEl.out _ (List.getElem_mem hih)
      have hwe := HW.out _ (List.getElem_mem hih)
      have hee : edgeAt h i = h[i] := edgeAt_eq hih
      have hrow := own_rowI HO.out
      have HRow := Lib.hid hrow
      have HSh := Lib.hid (shared21_any h[i] (othI h l i m) D A8 d c8 hwe HOw.out (by omega) (by omega) wr (hr0.grew HG.out) hrow)
      have hb := Nat.lt_of_lt_of_le hb0 HG.out.size
      have hc := (HG.out.cell (a := ⟨b, o + i, none⟩) hb0).trans hc0
      rw [hee] at HOk
      have hws : wfL (sharedI h[i] (othI h l i m)) := fun x hx => hwe x ((sharedI_mem _ _ _).1 hx).1
      have hsl : (sharedI h[i] (othI h l i m)).length ≤ 30 := Nat.le_trans (setI_len _) (Nat.le_trans (List.length_filter_le _ _) he30)
      clear hr0 hc0 hwe hee hrow HO HRow
      generalize sharedI h[i] (othI h l i m) = sh at *
      generalize (othI h l i m).length = on at *
      generalize h[i] = ei at *
      clear hih
      go_upto_region 11 with (go_at_call 71; (with_reducible refine HSh.out.mono ?_); rintro e w10 ⟨A10, k10, rfl, hg10, ho10⟩; have HG10 := Lib.hid (HG.out.trans hg10); have HR10 := Lib.hid (own_rowI ho10); clear hg10 ho10)
      clear hb hc HSh
      go_wp2
      go_loopw [46] (fun x wx => EaAt w10 (earQ h l i) m x wx) (fun x _ => m - (intOf x).toNat)
      case atStart => exact ⟨0, Nat.zero_le _, rfl, Grew.refl _, fun j hj => by omega⟩
      case round =>
        obtain ⟨p, hp, rfl, hgx, hq⟩ := hrel
        have HGX := Lib.hid (HG10.out.trans hgx)
        have HGx0 := Lib.hid hgx
        have HRX := Lib.hid (HR10.out.grew hgx)
        have HQ := Lib.hid hq
        clear hgx hq
        by_cases h2 : p < m
        · have hph : p < h.length := by rw [HN.out]; exact h2
          have HE : Hid (earQ h l i p = (p != i && thB l p && earOk h l i p)) := Lib.hid rfl
          have HNx : Hid (earQ h l i p = false → ∀ j, j < p + 1 → earQ h l i j = false) := Lib.hid fun e j hj => by
            by_cases ej : j = p
            · subst ej; exact e
            · exact HQ.out j (by omega)
          have HFn : Hid (earQ h l i p = true → fin = some p) := Lib.hid fun e => HSome.out p h2 e HQ.out
          by_cases hpi : p = i
          · have em : ((p : Int) != (i : Int)) = false := by simp [hpi]
            have HN1 := Lib.hid (HNx.out (by rw [HE.out, hpi]; simp))
            clear hpi hph HNx HFn HE HQ
            go_wp2
            exact ⟨⟨p + 1, by omega, by go_num, HGx0.out, HN1.out⟩, by simp only [intOf]; omega⟩
          · have em : ((p : Int) != (i : Int)) = true := by simp; omega
            have em2 : (p != i) = true := by simpa using hpi
            have HThm := Lib.hid (HTn.out p h2)
            rcases htm : thB l p with _ | _
            · rw [htm] at HThm
              have HN1 := Lib.hid (HNx.out (by rw [HE.out, htm]; simp))
              clear hpi hph HNx HFn HE HQ htm em2
              go_wp2_with (go_at_call 70; (with_reducible refine (HThm.out _ HGX.out).grows.mono ?_); rintro e w11 ⟨rfl, hg11⟩; have HG11 := Lib.hid (HGx0.out.trans hg11); clear hg11)
              exact ⟨⟨p + 1, by omega, by go_num, HG11.out, HN1.out⟩, by simp only [intOf]; omega⟩
            · rw [htm] at HThm
              obtain ⟨b3, o3, D3, d3, hA3, hb3, hc3, hr3⟩ := gridI_at RA.out hph
              injection hA3 with hA3
              injection hA3 with e31 e32 _
              subst e31 e32
              have he3 := HEl.out _ (List.getElem_mem hph)
              have hw3 := HW.out _ (List.getElem_mem hph)
              have HC3 := Lib.hid (fun W (hW : Grew w W) => (hW.cell (a := ⟨b, o + p, none⟩) hb3).trans hc3)
              have HWi := Lib.hid (fun W (hR : Row W A10 (iV sh)) (hW : Grew w W) => within21_any sh h[p] A10 D3 k10 d3 hws hw3 (by omega) (by omega) W hR (hr3.grew hW))
              have HV := HOk.out p
              rw [edgeAt_eq hph] at HV
              rw [HV] at HWi
              rw [em2, htm] at HE
              clear hpi htm em2 hc3 hr3 he3 hw3 HV
              generalize h[p] = e3 at *
              clear hph
              rcases hok : earOk h l i p with _ | _
              · rw [hok] at HWi HE
                have HN1 := Lib.hid (HNx.out (by rw [HE.out]; rfl))
                clear HNx HFn HE HQ hok
                go_wp2_with (first | (go_at_call 70; (with_reducible refine (HThm.out _ HGX.out).grows.mono ?_); rintro e w11 ⟨rfl, hg11⟩; have HG11 := Lib.hid (HGX.out.trans hg11); have HGx1 := Lib.hid (HGx0.out.trans hg11); have HR11 := Lib.hid (HRX.out.grew hg11); have hb11 := Nat.lt_of_lt_of_le hb3 HG11.out.size; have hc11 := HC3.out _ HG11.out; clear hg11) | (go_at_call 72; (with_reducible refine (HWi.out _ HR11.out HG11.out).grows.mono ?_); rintro e w12 ⟨rfl, hg12⟩; have HG12 := Lib.hid (HGx1.out.trans hg12); clear hg12))
                exact ⟨⟨p + 1, by omega, by go_num, HG12.out, HN1.out⟩, by simp only [intOf]; omega⟩
              · rw [hok] at HWi HE
                have HF := Lib.hid (HFn.out (by rw [HE.out]; rfl))
                clear HNx HFn HE HQ hok
                go_wp2_with (first | (go_at_call 70; (with_reducible refine (HThm.out _ HGX.out).grows.mono ?_); rintro e w11 ⟨rfl, hg11⟩; have HG11 := Lib.hid (HGX.out.trans hg11); have HR11 := Lib.hid (HRX.out.grew hg11); have hb11 := Nat.lt_of_lt_of_le hb3 HG11.out.size; have hc11 := HC3.out _ HG11.out; clear hg11) | (go_at_call 72; (with_reducible refine (HWi.out _ HR11.out HG11.out).grows.mono ?_); rintro e w12 ⟨rfl, hg12⟩; have HG12 := Lib.hid (HG11.out.trans hg12); clear hg12))
                obtain rfl := HF.out
                go_ret2
                exact ⟨rfl, HG12.out⟩
        · obtain rfl : p = m := by omega
          obtain rfl := HNone.out HQ.out
          clear HQ
          go_wp2
          go_ret2
          exact ⟨rfl, HGX.out⟩
end Go.Proofs.Ytpdkacfhnmfmaaa

/- Layer 22: an ear's parent, by the document. Condition: no more than a thousand edges of no more than thirty numbers each. -/
namespace Go.Proofs.Ytpdkacfhnmfmaaa
open Go.RowKit
attribute [local go_sem] more_cell more_frozen more_more more_setCell more_of_drew more_of_drewN lt_more le_more past_cell past_cell2 past_frozen past_frozen2 past_setCell past_setCell2 mid_cell mid_frozen mid_setCell
attribute [local go_sem ↓] Go.wp_at_zero Go.wp_at_succ

def parV (o : Option Nat) : Int := match o with | some p => (p : Int) | none => -1
def earOkN (h : List (List Int)) (l : List Bool) (i p m : Nat) : Bool := (List.range m).all fun k => !(k != i && thB l k) || withinI (sharedI (edgeAt h i) (edgeAt h k)) (edgeAt h p)
theorem earOkN_all (h : List (List Int)) (l : List Bool) (i p : Nat) : earOkN h l i p h.length = earOk h l i p := rfl
theorem earOkN_succ (h : List (List Int)) (l : List Bool) (i p m : Nat) : earOkN h l i p (m + 1) = (earOkN h l i p m && (!(m != i && thB l m) || withinI (sharedI (edgeAt h i) (edgeAt h m)) (edgeAt h p))) := by
  unfold earOkN
  rw [List.range_succ, List.all_append]
  simp
theorem earOkN_end {h : List (List Int)} {l : List Bool} {i p k : Nat} (ht : ∀ j, k ≤ j → thB l j = false) (d : Nat) : earOkN h l i p (k + d) = earOkN h l i p k := by
  induction d with
  | zero => rfl
  | succ d ih => rw [← Nat.add_assoc, earOkN_succ, ih, ht (k + d) (by omega)]; simp
def EpIn (w : World) (h : List (List Int)) (l : List Bool) (i p n : Nat) (x8 x9 : Value) (wr : World) : Prop := ∃ k : Nat, k ≤ n ∧ x8 = .bool (earOkN h l i p k) ∧ x9 = .int .i64 k ∧ Grew w wr
end Go.Proofs.Ytpdkacfhnmfmaaa

/- Layer 22: the ears that are removed, which are left, by the program. Condition: no more than a thousand edges of no more than thirty numbers each. -/
namespace Go.Proofs.Ytpdkacfhnmfmaaa
open Go.RowKit
attribute [local go_sem] more_cell more_frozen more_more more_setCell more_of_drew more_of_drewN lt_more le_more past_cell past_cell2 past_frozen past_frozen2 past_setCell past_setCell2 mid_cell mid_frozen mid_setCell
attribute [local go_sem ↓] Go.wp_at_zero Go.wp_at_succ

/-- Ears in memory: two cells each. -/
def eV (E : List (Nat × Nat)) : List Value := (E.map fun p => [Value.int .i64 p.1, Value.int .i64 p.2]).flatten
theorem eV_snoc (E : List (Nat × Nat)) (i p : Nat) : eV E ++ [.int .i64 i, .int .i64 p] = eV (E ++ [(i, p)]) := by simp [eV]
theorem eV_len (E : List (Nat × Nat)) : (eV E).length = E.length * 2 := by
  induction E with
  | nil => rfl
  | cons a t ih =>
    show ([Value.int .i64 a.1, Value.int .i64 a.2] ++ eV t).length = _
    rw [List.length_append, ih]
    simp
    omega
theorem eV_at {E : List (Nat × Nat)} {i : Nat} (hi : i < E.length) : (eV E)[i * 2]? = some (.int .i64 E[i].1) ∧ (eV E)[i * 2 + 1]? = some (.int .i64 E[i].2) := by
  induction E generalizing i with
  | nil => simp at hi
  | cons a t ih =>
    show ([Value.int .i64 a.1, Value.int .i64 a.2] ++ eV t)[i * 2]? = _ ∧ ([Value.int .i64 a.1, Value.int .i64 a.2] ++ eV t)[i * 2 + 1]? = _
    cases i with
    | zero => exact ⟨rfl, rfl⟩
    | succ i =>
      have h := ih (i := i) (by simpa using hi)
      rw [List.getElem?_append_right (by simp; omega), List.getElem?_append_right (by simp; omega)]
      rw [show (i + 1) * 2 - [Value.int .i64 a.1, Value.int .i64 a.2].length = i * 2 by simp; omega, show (i + 1) * 2 + 1 - [Value.int .i64 a.1, Value.int .i64 a.2].length = i * 2 + 1 by simp; omega]
      simpa using h
theorem infoEar : (Try.prog.info? 42).map (fun i => (i.zero, i.size, i.bytes)) = some (some (.agg #[.int .i64 0, .int .i64 0]), 2, 16) := by kernel_rfl
theorem neBE : (4 : TypeId) ≠ 42 := by decide
theorem bL_set (l : List Bool) (i : Nat) (v : Bool) : (bL l).toArray.setIfInBounds i (.bool v) = (bL (l.set i v)).toArray := by
  unfold bL
  apply Array.ext'
  rw [Array.toList_setIfInBounds, List.map_set]
theorem bL_made (n : Nat) (f : Nat → Bool) (h : ∀ i, i < n → f i = true) : bsV n f = (bL (List.replicate n true)).toArray := by
  unfold bsV bL
  congr 1
  apply List.ext_getElem
  · simp
  · intro i h1 h2
    simp at h1
    simp [h i h1]
theorem row_blok {w : World} {g : Nat} {t : TypeId} {cs : List Value} (h : Blok w g t cs.toArray) : Row w (some ⟨g, 0, none⟩) cs := Or.inr ⟨g, 0, rfl, h.lt, fun j u hu => by
  rw [Nat.zero_add, h.cell]
  simpa using hu⟩
theorem earR_nat {h : List (List Int)} {l : List Bool} {i : Nat} : earR h l (i : Int) = earP h l i := by
  unfold earR
  rw [if_pos (by omega), Int.toNat_natCast]
/-- Ears, and what is left, that are handed back. -/
def RemF (w : World) (h : List (List Int)) (n : Nat) (e : Ending) (w' : World) : Prop :=
  ∃ A k B c, e = .returned (.tuple #[.slice A (earsS h n).1.length k, .slice B n c]) ∧ Grew w w' ∧ Row w' A (eV (earsS h n).1) ∧ Row w' B (bL (earsS h n).2)
structure ReS (w : World) (lb : Nat) (h : List (List Int)) (k : Nat) (A : Option Addr) (c : Nat) (wr : World) : Prop where
  grew : Grew w wr
  blk : Blok wr lb 4 (bL (earsS h k).2).toArray
  own : wr.ownsRow (lb + 1) 42 2 (.slice A k c) k (eV (earsS h k).1)
  len : (earsS h k).1.length = k
theorem ReS.on {w wr w' : World} {lb k c : Nat} {h : List (List Int)} {A : Option Addr} (s : ReS w lb h k A c wr) (g : Grew wr w') : ReS w lb h k A c w' :=
  ⟨s.grew.trans g, s.blk.grew g, own_grewU s.own g, s.len⟩
theorem ReS.next {w wr w1 w' : World} {lb k c c' i p : Nat} {h : List (List Int)} {A A' : Option Addr} (s : ReS w lb h k A c wr) (hw : w.heap.size ≤ lb) (hs : stepE h (earsS h k).2 = some (i, p)) (hg : wr.grownBy w1 (Value.slice A k c).ownBlock)
    (ho : w1.ownsRow (lb + 1) 42 2 (.slice A' (k + 1) c') (k + 1) (eV (earsS h k).1 ++ [.int .i64 i, .int .i64 p])) (hw' : w' = w1.setCell ⟨lb, i, none⟩ (.bool false)) : ReS w lb h (k + 1) A' c' w' := by
  subst hw'
  have hb := s.blk.other s.own neBE hg
  refine ⟨(s.grew.grown hg fun q hq => by have := own_base s.own q hq; omega).setCell (a := ⟨lb, i, none⟩) hw _, ?_, ?_, ?_⟩
  · rw [earsS_some hs, ← bL_set]
    exact hb.set i _
  · rw [earsS_some hs, ← eV_snoc]
    exact own_aside2 ho (fun q hq => by have := own_base ho q hq; show q ≠ lb; omega) _
  · rw [earsS_some hs]
    simp [s.len]
def lenV : Value → Nat
  | .slice _ m _ => m
  | _ => 0
def TrAt (w : World) (lb n : Nat) (x : Value) (wr : World) : Prop := ∃ j : Nat, j ≤ n ∧ x = .int .i64 j ∧ Grew w wr ∧ Blok wr lb 4 (bsV n fun i => decide (i < j))
def ReO (w : World) (lb : Nat) (h : List (List Int)) (n : Nat) (x : Value) (wr : World) : Prop := ∃ (k : Nat) (A : Option Addr) (c : Nat), k ≤ n ∧ x = .slice A k c ∧ ReS w lb h k A c wr
def ReI (w : World) (h : List (List Int)) (l : List Bool) (n : Nat) (v y x : Value) (wr : World) : Prop := ∃ i : Nat, i ≤ n ∧ y = v ∧ x = .int .i64 i ∧ Grew w wr ∧ ∀ j, j < i → earP h l j = none
set_option maxHeartbeats 2000000 in
set_option maxRecDepth 100000 in
theorem removed22_any (h : List (List Int)) (n : Nat) (hn : h.length = n) (hn1 : n ≤ 1000) (hw : wfG h) (hel : ∀ e ∈ h, e.length ≤ 30) (A : Option Addr) (ka : Nat) (w : World) (ra : GridI (PRow w) A h) :
    Calls Try.prog 55 #[.slice A n ka] w (RemF w h n) := by
  have HN := Lib.hid hn
  have HEar := Lib.hid (fun (l : List Bool) (B : Option Addr) (c : Nat) (i : Int) W (hW : Grew w W) (hr : Row W B (bL l)) => ear22_any h n hn hn1 hw hel l A B ka c i W (ra.grew hW) hr)
  have HLe : Hid (∀ k, (earsS h k).1.length ≤ n) := Lib.hid fun k => by rw [← hn]; exact earsS_le h k
  have HLl : Hid (∀ k, (earsS h k).2.length = n) := Lib.hid fun k => by rw [← hn]; exact earsS_len h k
  have HEnd : Hid (∀ k, (earsS h k).1.length = k → stepE h (earsS h k).2 = none → earsS h n = earsS h k) := Lib.hid fun k h1 h2 => by rw [← hn]; exact earsS_end h1 h2
  have HS0 : Hid (earsS h 0 = ([], List.replicate n true)) := Lib.hid (by rw [← hn]; rfl)
  have HNone : Hid (∀ l, (∀ j, j < n → earP h l j = none) → stepE h l = none) := Lib.hid fun l hl => stepE_none (by rw [hn]; exact hl)
  have HSome : Hid (∀ l i p, i < n → earP h l i = some p → (∀ j, j < i → earP h l j = none) → stepE h l = some (i, p)) := Lib.hid fun l i p hi => stepE_some (by rw [hn]; exact hi)
  obtain ⟨j0, gi, gz0, gz1, gz2⟩ := info_parts infoB21
  have HJ := Lib.hid gi
  have HJ0 := Lib.hid gz0
  have HJ1 := Lib.hid gz1
  have HJ2 := Lib.hid gz2
  clear hn hw hel ra gi gz0 gz1 gz2
  obtain ⟨lb, hlb⟩ : ∃ lb, w.heap.size = lb := ⟨_, rfl⟩
  have HLb := Lib.hid hlb
  go_enter Try.func55, Try.ntmps55
  go_wp2
  go_step3
  go_wp2_with (at_make; refine wpList_make_row _ rfl _ _ 55 rfl 4 j0 (.bool false) Try.underlying55 HJ.out HJ0.out HJ1.out rfl _ _ n rfl rfl (by rw [HJ2.out]; omega) (by omega) ?_)
  have H0 : Hid (TrAt w w.heap.size n (.int .i64 (0 : Nat)) (w.alloc (.cells (madeCells #[.bool false] n) 4))) := Lib.hid ⟨0, Nat.zero_le _, rfl, (Grew.refl w).alloc _, by
    have e : (bsV n fun i => decide (i < 0)) = madeCells #[.bool false] n := by rw [bsV_made]; simp
    rw [e]
    exact Blok.new w 4 (madeCells #[.bool false] n) _ rfl⟩
  generalize w.alloc (.cells (madeCells #[.bool false] n) 4) = w1 at *
  rw [hlb] at H0
  clear hlb
  go_loopw [15] (fun x wr => TrAt w lb n x wr) (fun x _ => n - (intOf x).toNat)
  case atStart => exact H0.out
  case round =>
    obtain ⟨j, hj, rfl, hg, hb⟩ := hrel
    have HG := Lib.hid hg
    have HB := Lib.hid hb
    clear hg hb H0
    by_cases h1 : j < n
    · have t0 := HB.out.cell j
      rw [bsV_at n _ j h1] at t0
      have t1 := HB.out.thaw j
      have tl := HB.out.lt
      have HB2 : Hid (Blok (wr.setCell ⟨lb, j, none⟩ (.bool true)) lb 4 (bsV n fun i => decide (i < j + 1))) := Lib.hid (by
        have := HB.out.set j (.bool true)
        rw [bsV_set] at this
        have e : (fun i => if i = j then true else decide (i < j)) = fun i => decide (i < j + 1) := by
          funext i
          by_cases hi : i = j
          · rw [if_pos hi]; exact (decide_eq_true (by omega)).symm
          · rw [if_neg hi]
            by_cases h2 : i < j
            · rw [decide_eq_true h2]; exact (decide_eq_true (by omega)).symm
            · rw [decide_eq_false h2]; exact (decide_eq_false (by omega)).symm
        rwa [e] at this)
      have HG2 : Hid (Grew w (wr.setCell ⟨lb, j, none⟩ (.bool true))) := Lib.hid (HG.out.setCell (a := ⟨lb, j, none⟩) (by rw [HLb.out]; exact Nat.le_refl _) _)
      go_wp2
      exact ⟨⟨j + 1, by omega, by go_num, HG2.out, HB2.out⟩, by simp only [intOf]; omega⟩
    · obtain rfl : j = n := by omega
      have HR0 : Hid (ReS w lb h 0 none 0 wr) := Lib.hid ⟨HG.out, by
        rw [HS0.out]
        have := HB.out
        rwa [bL_made _ _ fun i hi => decide_eq_true hi] at this, by rw [HS0.out]; exact own_none _ _ _ _, by rw [HS0.out]; rfl⟩
      clear HG HB HS0
      go_wp2
      go_step3
      go_wp2
      go_loopw [4] (fun x wx => ReO w lb h j x wx) (fun x _ => j - lenV x)
      case atStart => exact ⟨0, none, 0, Nat.zero_le _, rfl, HR0.out⟩
      case round =>
        obtain ⟨k, A1, c1, hk, rfl, hs⟩ := hrel
        have HS := Lib.hid hs
        clear hs HR0
        obtain ⟨L, hL⟩ : ∃ L, (earsS h k).2 = L := ⟨_, rfl⟩
        have HL := Lib.hid hL
        clear hL
        have hLl : L.length = j := by rw [← HL.out]; exact HLl.out k
        have HEar1 := Lib.hid (HEar.out L (some ⟨lb, 0, none⟩))
        have HBk : Hid (Blok wr lb 4 (bL L).toArray) := Lib.hid (by rw [← HL.out]; exact HS.out.blk)
        rw [hLl] at HEar1
        go_wp2
        go_loopw [4, 24] (fun y x wx => ReI wr h L j (.slice A1 k c1) y x wx) (fun _ x _ => j - (intOf x).toNat)
        case atStart => exact ⟨0, Nat.zero_le _, rfl, rfl, Grew.refl _, fun i hi => by omega⟩
        case round =>
          obtain ⟨i, hi, rfl, rfl, hg, hnone⟩ := hrel
          have HG := Lib.hid hg
          have HNo := Lib.hid hnone
          clear hg hnone
          by_cases h2 : i < j
          · have HE := Lib.hid (fun c => HEar1.out c i wr (HS.out.grew.trans HG.out) (row_blok (HBk.out.grew HG.out)))
            rw [earR_nat] at HE
            rcases hp : earP h L i with _ | p
            · rw [hp] at HE
              unfold earT at HE
              simp only [Option.isSome] at HE
              have HNx : Hid (∀ q, q < i + 1 → earP h L q = none) := Lib.hid fun q hq => by
                by_cases e : q = i
                · subst e; exact hp
                · exact HNo.out q (by omega)
              clear hp HNo
              go_wp2_with (go_at_call 64; (with_reducible refine (HE.out _).grows.mono ?_); rintro e w6 ⟨rfl, hg6⟩; have HG6 := Lib.hid (HG.out.trans hg6); clear hg6)
              exact ⟨⟨i + 1, by omega, rfl, by go_num, HG6.out, HNx.out⟩, by simp only [intOf]; omega⟩
            · rw [hp] at HE
              unfold earT at HE
              simp only [Option.isSome] at HE
              have hst := HSome.out L i p h2 hp HNo.out
              rw [← HL.out] at hst
              have HSt := Lib.hid hst
              have hkj : k + 1 ≤ j := by
                have h4 := HLe.out (k + 1)
                rw [earsS_some hst, List.length_append, HS.out.len] at h4
                simpa using h4
              have hpj : p < j := by
                have := (earP_inv hp).2.2.1
                rwa [HN.out] at this
              clear hp HNo hst
              have hbs := HBk.out.grew HG.out
              have HSx := Lib.hid (HS.out.on HG.out)
              go_upto_region 13 with (go_at_call 64; (with_reducible refine (HE.out _).grows.mono ?_); rintro e w6 ⟨rfl, hg6⟩; have HS6 := Lib.hid (HSx.out.on hg6); clear hg6)
              have HS7 := Lib.hid (HS6.out.on ((Grew.refl w6).alloc (.cells #[.int .i64 i, .int .i64 p] 42)))
              have h6l := HS6.out.blk.lt
              go_upto_region 14 with (at_builtin; refine wpList_appB rfl _ _ 39 42 2 rfl (lb + 1) (.agg #[.int .i64 0, .int .i64 0]) 16 Try.underlying39 infoEar rfl (by decide) (by decide) _ k (eV (earsS h k).1) rfl HS7.out.own _ 1 1 [.int .i64 i, .int .i64 p] rfl rfl (row_new _ _ _ _ rfl) (by simp [Value.oneCell']) (by omega) (by rw [World.size_alloc]; omega) ?_; intro A9 c9 w9 ho9 hg9; have HO9 := Lib.hid ho9; have HG9 := Lib.hid hg9; clear ho9 hg9)
              have hbl9 := HS7.out.blk.other HS7.out.own neBE HG9.out
              rw [HL.out] at hbl9
              have t0 := hbl9.cell i
              have t1 := hbl9.thaw i
              have tl := hbl9.lt
              have HF := Lib.hid (HS7.out.next (w' := w9.setCell ⟨lb, i, none⟩ (.bool false)) (by rw [HLb.out]; exact Nat.le_refl _) HSt.out HG9.out HO9.out rfl)
              have t2 : ((bL L).toArray)[i]? = some (.bool L[i]) := by simp [bL]
              rw [t2] at t0
              clear hbl9 t2
              go_wp2
              exact ⟨⟨k + 1, A9, c9, hkj, rfl, HF.out⟩, by simp only [lenV]; omega⟩
          · obtain rfl : i = j := by omega
            have hst := HNone.out L HNo.out
            rw [← HL.out] at hst
            have HE := Lib.hid (HEnd.out k HS.out.len hst)
            have HF : Hid (RemF w h i (.returned (.tuple #[.slice A1 k c1, .slice (some ⟨lb, 0, none⟩) i i])) wr) := Lib.hid (by
              have s := HS.out.on HG.out
              obtain ⟨A', c', e, hr⟩ := own_row s.own
              injection e with e _ _
              subst e
              refine ⟨A1, c1, some ⟨lb, 0, none⟩, i, ?_, s.grew, by rw [HE.out]; exact hr, by rw [HE.out]; exact row_blok s.blk⟩
              rw [HE.out, s.len])
            clear HE hst HNo
            go_wp2
            try rw [Exit.noGoto_ret]
            go_ret2
            exact HF.out
end Go.Proofs.Ytpdkacfhnmfmaaa

/- Layer 22: ears and what is left, by the program, and by the document. Condition: no more than a thousand edges of no more than thirty numbers each. -/
namespace Go.Proofs.Ytpdkacfhnmfmaaa
open Go.RowKit
attribute [local go_sem] more_cell more_frozen more_more more_setCell more_of_drew more_of_drewN lt_more le_more past_cell past_cell2 past_frozen past_frozen2 past_setCell past_setCell2 mid_cell mid_frozen mid_setCell
attribute [local go_sem ↓] Go.wp_at_zero Go.wp_at_succ

def EarsF (w : World) (E : List (Nat × Nat)) (e : Ending) (w' : World) : Prop := ∃ A k, e = .returned (.slice A E.length k) ∧ Grew w w' ∧ Row w' A (eV E)
theorem ears22_any (h : List (List Int)) (n : Nat) (hn : h.length = n) (hn1 : n ≤ 1000) (hw : wfG h) (hel : ∀ e ∈ h, e.length ≤ 30) (A : Option Addr) (ka : Nat) (w : World) (ra : GridI (PRow w) A h) :
    Calls Try.prog 31 #[.slice A n ka] w (EarsF w (earsS h n).1) := by
  have HR := Lib.hid (removed22_any h n hn hn1 hw hel A ka w ra)
  clear hn hw hel ra
  go_enter Try.func31, Try.ntmps31
  go_wp2_with fail
  refine HR.out.mono ?_
  rintro e w1 ⟨A1, k1, B1, c1, rfl, hg1, hr1, _⟩
  have HF : Hid (EarsF w (earsS h n).1 (.returned (.slice A1 (earsS h n).1.length k1)) w1) := Lib.hid ⟨A1, k1, rfl, hg1, hr1⟩
  clear hg1 hr1 HR
  generalize EarsF w (earsS h n).1 = F at *
  generalize (earsS h n).1.length = m at *
  go_wp2
  first | exact HF.out | (go_ret; exact HF.out)
theorem leftL_in {l : List Bool} {m : Nat} (h : thB l m = true) : leftL l (m + 1) = leftL l m ++ [(m : Int)] := by
  show (if thB l m then leftL l m ++ [(m : Int)] else leftL l m) = _
  rw [if_pos h]
theorem leftL_out {l : List Bool} {m : Nat} (h : thB l m = false) : leftL l (m + 1) = leftL l m := by
  show (if thB l m then leftL l m ++ [(m : Int)] else leftL l m) = _
  rw [if_neg (by simp [h])]
theorem leftL_le (l : List Bool) (m : Nat) : (leftL l m).length ≤ m := by
  induction m with
  | zero => exact Nat.le_refl _
  | succ m ih =>
    unfold leftL
    split
    · rw [List.length_append]; simpa using ih
    · omega
def LeAt (u w : World) (l : List Bool) (n : Nat) (v x : Value) (wr : World) : Prop := ∃ (m : Nat) (A : Option Addr) (c : Nat), m ≤ n ∧ v = .slice A (leftL l m).length c ∧ x = .int .i64 m ∧ Grew w wr ∧ wr.ownsRow u.heap.size 3 1 (.slice A (leftL l m).length c) (leftL l m).length (iV (leftL l m))
set_option maxHeartbeats 1000000 in
set_option maxRecDepth 100000 in
theorem left22_any (h : List (List Int)) (n : Nat) (hn : h.length = n) (hn1 : n ≤ 1000) (hw : wfG h) (hel : ∀ e ∈ h, e.length ≤ 30) (A : Option Addr) (ka : Nat) (w : World) (ra : GridI (PRow w) A h) :
    Calls Try.prog 32 #[.slice A n ka] w (OwnI w (leftI h)) := by
  have HR := Lib.hid (removed22_any h n hn hn1 hw hel A ka w ra)
  have HLl : Hid ((earsS h n).2.length = n) := Lib.hid (by rw [← hn]; exact earsS_len h _)
  have HE : Hid (leftI h = leftL (earsS h n).2 n) := Lib.hid (by rw [← hn]; rfl)
  clear hn hw hel ra
  obtain ⟨L, hL⟩ : ∃ L, (earsS h n).2 = L := ⟨_, rfl⟩
  have HFin : Hid (∀ A k W, Grew w W → W.ownsRow w.heap.size 3 1 (.slice A (leftL L n).length k) (leftL L n).length (iV (leftL L n)) → OwnI w (leftI h) (.returned (.slice A (leftL L n).length k)) W) := Lib.hid fun A k W hW ho => by
    rw [HE.out, hL]
    exact ⟨A, k, rfl, hW, ho⟩
  rw [hL] at HLl
  have HL := Lib.hid hL
  clear hL HE
  generalize OwnI w (leftI h) = F at *
  go_enter Try.func32, Try.ntmps32
  go_wp2_with fail
  refine HR.out.mono ?_
  rintro e w1 ⟨A1, k1, B1, c1, rfl, hg1, _, hr1⟩
  have HG1 := Lib.hid hg1
  have HR1 : Hid (Row w1 B1 (bL L)) := Lib.hid (by rw [← HL.out]; exact hr1)
  clear hg1 hr1 HR HL
  generalize (earsS h n).1.length = m at *
  go_wp2
  go_loopw [3, 15] (fun v x wr => LeAt w1 w1 L n v x wr) (fun _ x _ => n - (intOf x).toNat)
  case atStart => exact ⟨0, none, 0, Nat.zero_le _, rfl, rfl, Grew.refl w1, own_none _ _ _ _⟩
  case round =>
    obtain ⟨i, A2, c2, hi, rfl, rfl, hg, ho⟩ := hrel
    have HG := Lib.hid hg
    have HO := Lib.hid ho
    clear hg ho
    have hll := leftL_le L i
    by_cases h1 : i < n
    · obtain ⟨b, o, rfl, hb, hc⟩ := boolrow_at (HR1.out.grew HG.out) (show i < L.length by rw [HLl.out]; exact h1)
      rcases ht : thB L i with _ | _
      · rw [ht] at hc
        have HT := Lib.hid (leftL_out ht)
        clear ht
        generalize hoo : leftL L i = oo at *
        clear hoo
        go_wp2
        exact ⟨⟨i + 1, A2, c2, by omega, by rw [HT.out], by go_num, HG.out, by rw [HT.out]; exact HO.out⟩, by simp only [intOf]; omega⟩
      · rw [ht] at hc
        have HT := Lib.hid (leftL_in ht)
        clear ht
        generalize hoo : leftL L i = oo at *
        clear hoo
        go_wp2_with (at_builtin; refine wpList_appB rfl _ _ 25 3 1 rfl w1.heap.size (.int .i64 0) 8 Try.underlying25 infoI rfl (by decide) (by decide) _ oo.length (iV oo) rfl (own_alloc HO.out _) _ 1 1 [.int .i64 i] rfl rfl (row_one _ _ _ _ rfl) (by simp [Value.oneCell']) (by omega) (by rw [World.size_alloc]; have := HG.out.size; omega) ?_; intro A9 c9 w9 ho9 hg9; have HG9 := Lib.hid ((HG.out.alloc (.cells #[.int .i64 i] 3)).grown hg9 (own_base HO.out)); have HO9 := Lib.hid ho9; clear ho9 hg9)
        exact ⟨⟨i + 1, A9, c9, by omega, by rw [HT.out, List.length_append]; rfl, by go_num, HG9.out, by rw [HT.out, List.length_append, ← iV_snoc]; exact HO9.out⟩, by simp only [intOf]; omega⟩
    · obtain rfl : i = n := by omega
      have HF := Lib.hid (HFin.out A2 c2 wr (HG1.out.trans HG.out) (own_le HO.out HG1.out.size))
      generalize (leftL L i).length = q at *
      go_wp2
      first | exact HF.out | (go_ret; exact HF.out)
theorem acyclic22_any (h : List (List Int)) (n : Nat) (hn : h.length = n) (hn1 : n ≤ 1000) (hw : wfG h) (hel : ∀ e ∈ h, e.length ≤ 30) (A : Option Addr) (ka : Nat) (w : World) (ra : GridI (PRow w) A h) :
    Gives Try.prog 11 #[.slice A n ka] w (.bool (decide ((leftI h).length ≤ 1))) := by
  have HL := Lib.hid (left22_any h n hn hn1 hw hel A ka w ra)
  clear hn hw hel ra
  generalize leftI h = l at *
  unfold Gives
  go_enter Try.func11, Try.ntmps11
  go_wp2_with fail
  refine HL.out.mono ?_
  rintro e w1 ⟨A1, k1, rfl, hg1, _⟩
  have HG1 := Lib.hid hg1
  clear hg1 HL
  go_wp2
  go_ret
  have e : decide ((l.length : Int) ≤ 1) = decide (l.length ≤ 1) := by rw [decide_eq_decide]; omega
  exact ⟨by rw [← e]; rfl, HG1.out⟩
/-- The ears, by the document. -/
structure DoS (w : World) (Al : Option Addr) (cl : Nat) (h : List (List Int)) (n k m : Nat) (A : Option Addr) (c : Nat) (wr : World) : Prop where
  grew : Grew w wr
  left : wr.ownsRow w.heap.size 4 1 (.slice Al n cl) n (bL (earsS h k).2)
  own : wr.ownsRow w.heap.size 42 2 (.slice A m c) m (eV (earsS h k).1)
  len : (earsS h k).1.length = m
theorem DoS.on {w wr w' : World} {Al A : Option Addr} {cl c n k m : Nat} {h : List (List Int)} (s : DoS w Al cl h n k m A c wr) (g : Grew wr w') : DoS w Al cl h n k m A c w' :=
  ⟨s.grew.trans g, own_grewU s.left g, own_grewU s.own g, s.len⟩
theorem DoS.stay {w wr : World} {Al A : Option Addr} {cl c n k m : Nat} {h : List (List Int)} (s : DoS w Al cl h n k m A c wr) (hs : stepE h (earsS h k).2 = none) : DoS w Al cl h n (k + 1) m A c wr :=
  ⟨s.grew, by rw [earsS_none hs]; exact s.left, by rw [earsS_none hs]; exact s.own, by rw [earsS_none hs]; exact s.len⟩
theorem DoS.next {w wr w1 w' : World} {A A' : Option Addr} {lg cl c c' n k m i p : Nat} {h : List (List Int)} (s : DoS w (some ⟨lg, 0, none⟩) cl h n k m A c wr) (hlg : w.heap.size ≤ lg) (hs : stepE h (earsS h k).2 = some (i, p)) (hg : wr.grownBy w1 (Value.slice A m c).ownBlock)
    (ho : w1.ownsRow w.heap.size 42 2 (.slice A' (m + 1) c') (m + 1) (eV (earsS h k).1 ++ [.int .i64 i, .int .i64 p])) (hw' : w' = w1.setCell ⟨lg, i, none⟩ (.bool false)) : DoS w (some ⟨lg, 0, none⟩) cl h n (k + 1) (m + 1) A' c' w' := by
  subst hw'
  have hl1 : w1.ownsRow w.heap.size 4 1 (.slice (some ⟨lg, 0, none⟩) n cl) n (bL (earsS h k).2) := own_grown s.left hg fun q hq e => type_apart s.left s.own neBE q hq e.symm
  refine ⟨(s.grew.grown hg (own_base s.own)).setCell (a := ⟨lg, i, none⟩) hlg _, ?_, ?_, ?_⟩
  · rw [earsS_some hs]
    have := (hl1.stored i (.bool false)).1
    have e : (bL (earsS h k).2).set i (.bool false) = bL ((earsS h k).2.set i false) := by unfold bL; rw [List.map_set]
    rwa [e] at this
  · rw [earsS_some hs, ← eV_snoc]
    exact own_aside2 ho (fun q hq e => type_apart hl1 ho neBE lg rfl (by rw [hq, e])) _
  · rw [earsS_some hs]
    simp [s.len]
def DtAt (w : World) (n : Nat) (v x : Value) (wr : World) : Prop := ∃ (j : Nat) (A : Option Addr) (c : Nat), j ≤ n ∧ v = .slice A j c ∧ x = .int .i64 j ∧ Grew w wr ∧ wr.ownsRow w.heap.size 4 1 (.slice A j c) j (bL (List.replicate j true))
def DoO (w : World) (Al : Option Addr) (cl : Nat) (h : List (List Int)) (n : Nat) (v x : Value) (wr : World) : Prop := ∃ (k m : Nat) (A : Option Addr) (c : Nat), k ≤ n ∧ v = .slice A m c ∧ x = .int .i64 k ∧ DoS w Al cl h n k m A c wr
end Go.Proofs.Ytpdkacfhnmfmaaa

/- Layer 22: the page's example; the law of ears. Condition: numbers that an int holds. -/
namespace Go.Proofs.Ytpdkacfhnmfmaaa
open Go.RowKit
attribute [local go_sem] more_cell more_frozen more_more more_setCell more_of_drew more_of_drewN lt_more le_more past_cell past_cell2 past_frozen past_frozen2 past_setCell past_setCell2 mid_cell mid_frozen mid_setCell
attribute [local go_sem ↓] Go.wp_at_zero Go.wp_at_succ

def earOk2 (h : List (List Int)) (l : List Bool) (i p : Nat) : Bool :=
  (List.range h.length).all fun k => !(k != i && thB l k) || (edgeAt h i).all fun x => !decide (x ∈ edgeAt h k) || decide (x ∈ edgeAt h p)
theorem earOk_eq (h : List (List Int)) (l : List Bool) (i p : Nat) : earOk h l i p = earOk2 h l i p := by
  rw [Bool.eq_iff_iff, earOk_iff]
  unfold earOk2
  rw [List.all_eq_true]
  constructor
  · intro H k hk
    by_cases e : k = i
    · subst e; simp
    · cases hl : thB l k
      · simp
      · have e' : (k != i) = true := by simpa using e
        rw [e']
        simp only [Bool.and_self, Bool.not_true, Bool.false_or, List.all_eq_true, Bool.or_eq_true, Bool.not_eq_true', decide_eq_false_iff_not, decide_eq_true_iff]
        intro x hx
        by_cases h2 : x ∈ edgeAt h k
        · exact Or.inr (H k (List.mem_range.1 hk) e hl x hx h2)
        · exact Or.inl h2
  · intro H k hk hki hl x h1 h2
    have := H k (List.mem_range.2 hk)
    have e' : (k != i) = true := by simpa using hki
    rw [e', hl] at this
    simp only [Bool.and_self, Bool.not_true, Bool.false_or, List.all_eq_true, Bool.or_eq_true, Bool.not_eq_true', decide_eq_false_iff_not, decide_eq_true_iff] at this
    rcases this x h1 with h3 | h3
    · exact absurd h2 h3
    · exact h3
def earP2 (h : List (List Int)) (l : List Bool) (i : Nat) : Option Nat := if decide (i < h.length) && thB l i then (List.range h.length).find? (fun p => p != i && thB l p && earOk2 h l i p) else none
theorem earP_eq : earP = earP2 := by
  funext h l i
  unfold earP earP2
  have : earQ h l i = fun p => p != i && thB l p && earOk2 h l i p := by
    funext p
    unfold earQ
    rw [earOk_eq]
  rw [this]
theorem stepE_eq (h : List (List Int)) (l : List Bool) : stepE h l = (match (List.range h.length).find? fun i => (earP2 h l i).isSome with | none => none | some i => (earP2 h l i).map fun p => (i, p)) := by
  unfold stepE
  rw [earP_eq]
  try rfl
def liveE1 : List (List Int) := [[1, 2], [2, 3], [1, 3]]
def liveE2 : List (List Int) := [[1, 2], [2, 3], [1, 3], [1, 2, 3]]
theorem liveE1_left : decide ((leftI liveE1).length ≤ 1) = false := by
  have h0 : stepE liveE1 (earsS liveE1 0).2 = none := by
    rw [stepE_eq]
    show (match (List.range liveE1.length).find? fun i => (earP2 liveE1 (List.replicate 3 true) i).isSome with | none => none | some i => (earP2 liveE1 (List.replicate 3 true) i).map fun p => (i, p)) = none
    decide +kernel
  have h1 := earsS_end (h := liveE1) (k := 0) rfl h0
  have h2 := leftI_len liveE1
  rw [h1] at h2
  have h3 : (earsS liveE1 0).1.length = 0 := rfl
  have h4 : liveE1.length = 3 := rfl
  exact decide_eq_false (by omega)
theorem liveE2_left : decide ((leftI liveE2).length ≤ 1) = true := by
  have s0 : stepE liveE2 (earsS liveE2 0).2 = some (0, 3) := by
    rw [stepE_eq]
    show (match (List.range liveE2.length).find? fun i => (earP2 liveE2 (List.replicate 4 true) i).isSome with | none => none | some i => (earP2 liveE2 (List.replicate 4 true) i).map fun p => (i, p)) = _
    decide +kernel
  have e1 : earsS liveE2 1 = ([(0, 3)], [false, true, true, true]) := earsS_some s0
  have s1 : stepE liveE2 (earsS liveE2 1).2 = some (1, 3) := by
    rw [e1, stepE_eq]
    decide +kernel
  have e2 : earsS liveE2 2 = ([(0, 3), (1, 3)], [false, false, true, true]) := by
    rw [earsS_some s1, e1]
    rfl
  have s2 : stepE liveE2 (earsS liveE2 2).2 = some (2, 3) := by
    rw [e2, stepE_eq]
    decide +kernel
  have e3 : earsS liveE2 3 = ([(0, 3), (1, 3), (2, 3)], [false, false, false, true]) := by
    rw [earsS_some s2, e2]
    rfl
  have s3 : stepE liveE2 (earsS liveE2 3).2 = none := by
    rw [e3, stepE_eq]
    decide +kernel
  have h1 := earsS_end (h := liveE2) (k := 3) (by rw [e3]; rfl) s3
  have h2 := leftI_len liveE2
  rw [h1, e3] at h2
  have h4 : liveE2.length = 4 := rfl
  simp only [List.length_cons, List.length_nil] at h2
  exact decide_eq_true (by omega)
theorem gridI_four {w : World} {A : Option Addr} {l m p q : List Int} {B C D E : Option Addr} {b c d e : Nat} (hB : Row w B (iV l)) (hC : Row w C (iV m)) (hD : Row w D (iV p)) (hE : Row w E (iV q)) (hA : Row w A [.slice B l.length b, .slice C m.length c, .slice D p.length d, .slice E q.length e]) : GridI (PRow w) A [l, m, p, q] := by
  refine ⟨[[.slice B l.length b], [.slice C m.length c], [.slice D p.length d], [.slice E q.length e]], ⟨rfl, fun i x cs h1 h2 => ?_⟩, hA⟩
  match i with
  | 0 => simp at h1 h2; subst h1 h2; exact ⟨⟨B, b, rfl, hB⟩, rfl⟩
  | 1 => simp at h1 h2; subst h1 h2; exact ⟨⟨C, c, rfl, hC⟩, rfl⟩
  | 2 => simp at h1 h2; subst h1 h2; exact ⟨⟨D, d, rfl, hD⟩, rfl⟩
  | 3 => simp at h1 h2; subst h1 h2; exact ⟨⟨E, e, rfl, hE⟩, rfl⟩
  | i + 4 => simp at h1
def live22A (w : World) : World := (((w.alloc (.cells #[.int .i64 1, .int .i64 2] 3)).alloc (.cells #[.int .i64 2, .int .i64 3] 3)).alloc (.cells #[.int .i64 1, .int .i64 3] 3)).alloc (.cells #[.slice (some ⟨w.heap.size, 0, none⟩) 2 2, .slice (some ⟨w.heap.size + 1, 0, none⟩) 2 2, .slice (some ⟨w.heap.size + 2, 0, none⟩) 2 2] 25)
theorem live22A_grid (w : World) : GridI (PRow (live22A w)) (some ⟨w.heap.size + 3, 0, none⟩) liveE1 :=
  gridI_three (l := [1, 2]) (m := [2, 3]) (p := [1, 3]) (b := 2) (c := 2) (d := 2) (row_alloc (row_alloc (row_alloc (row_new _ _ _ _ rfl) _) _) _) (row_alloc (row_alloc (row_new _ _ _ _ (by simp)) _) _) (row_alloc (row_new _ _ _ _ (by simp)) _) (row_new _ _ _ #[_, _, _] (by simp))
def live22B (w : World) : World := ((((w.alloc (.cells #[.int .i64 1, .int .i64 2] 3)).alloc (.cells #[.int .i64 2, .int .i64 3] 3)).alloc (.cells #[.int .i64 1, .int .i64 3] 3)).alloc (.cells #[.int .i64 1, .int .i64 2, .int .i64 3] 3)).alloc (.cells #[.slice (some ⟨w.heap.size, 0, none⟩) 2 2, .slice (some ⟨w.heap.size + 1, 0, none⟩) 2 2, .slice (some ⟨w.heap.size + 2, 0, none⟩) 2 2, .slice (some ⟨w.heap.size + 3, 0, none⟩) 3 3] 25)
theorem live22B_grid (w : World) : GridI (PRow (live22B w)) (some ⟨w.heap.size + 4, 0, none⟩) liveE2 :=
  gridI_four (l := [1, 2]) (m := [2, 3]) (p := [1, 3]) (q := [1, 2, 3]) (b := 2) (c := 2) (d := 2) (e := 3) (row_alloc (row_alloc (row_alloc (row_alloc (row_new _ _ _ _ rfl) _) _) _) _) (row_alloc (row_alloc (row_alloc (row_new _ _ _ _ (by simp)) _) _) _) (row_alloc (row_alloc (row_new _ _ _ _ (by simp)) _) _) (row_alloc (row_new _ _ _ _ (by simp)) _) (row_new _ _ _ #[_, _, _, _] (by simp))
theorem live22_any (w : World) : Gives Try.prog 8 #[] w (.bool true) := by
  have H1 := Lib.hid (acyclic22_any liveE1 3 rfl (by decide) (by unfold wfG wfL wfI liveE1; decide) (by unfold liveE1; decide) _ 3 (live22A w) (live22A_grid w))
  have H2 := Lib.hid (fun W => acyclic22_any liveE2 4 rfl (by decide) (by unfold wfG wfL wfI liveE2; decide) (by unfold liveE2; decide) _ 4 (live22B W) (live22B_grid W))
  rw [liveE1_left] at H1
  rw [liveE2_left] at H2
  have HG0 : Hid (Grew w (live22A w)) := Lib.hid (by unfold live22A; exact ((((Grew.refl w).alloc _).alloc _).alloc _).alloc _)
  have HGB : Hid (∀ W, Grew W (live22B W)) := Lib.hid fun W => (by unfold live22B; exact (((((Grew.refl W).alloc _).alloc _).alloc _).alloc _).alloc _)
  unfold live22A at H1 HG0
  unfold live22B at H2 HGB
  unfold Gives
  go_enter Try.func8, Try.ntmps8
  go_wp2_with (first | (go_at_call 11; (with_reducible refine H1.out.grows.mono ?_); rintro e w5 ⟨rfl, hg5⟩; have HG5 := Lib.hid (HG0.out.trans hg5); clear hg5 H1 HG0) | (go_at_call 11; refine (H2.out w5).grows.mono ?_; rintro e w6 ⟨rfl, hg6⟩; have HG6 := Lib.hid ((HG5.out.trans (HGB.out w5)).trans hg6); clear hg6))
  go_ret
  exact ⟨rfl, HG6.out⟩
end Go.Proofs.Ytpdkacfhnmfmaaa

namespace Go.Proofs.Ytpdkacfhnmfmaaa
open Go.RowKit
attribute [local go_sem] more_cell more_frozen more_more more_setCell more_of_drew more_of_drewN lt_more le_more past_cell past_cell2 past_frozen past_frozen2 past_setCell past_setCell2 mid_cell mid_frozen mid_setCell
attribute [local go_sem ↓] Go.wp_at_zero Go.wp_at_succ

theorem rdw_bS {H : Type} {enc : TypeId × Value → H} {W : World} : RdW enc Try.prog W 4 1 (fun (x : Bool) cs => cs = [.bool x]) := rdw_of (rd_bool Try.underlying4 (by kernel_rfl))
theorem bools_row {w : World} {A : Option Addr} {l : List Bool} {css : List (List Value)} (h : ListR (fun (x : Bool) cs => cs = [.bool x]) 1 l css) (hr : Row w A css.flatten) : Row w A (bL l) := by
  have e : css.flatten = bL l := by
    obtain ⟨h1, h2⟩ := h
    clear hr
    induction css generalizing l with
    | nil => 
      have : l = [] := List.eq_nil_of_length_eq_zero (by simpa using h1.symm)
      subst this
      rfl
    | cons a t ih =>
      match l with
      | [] => simp at h1
      | x :: l =>
        have h0 := (h2 0 x a rfl rfl).1
        rw [h0, List.flatten_cons, ih (by simpa using h1) fun i y cs hy hc => h2 (i + 1) y cs (by simpa using hy) (by simpa using hc)]
        rfl
  rw [← e]
  exact hr
theorem rdw_bools {H : Type} {enc : TypeId × Value → H} {W : World} : RdW enc Try.prog W 55 1 (fun (l : List Bool) cs => ∃ A c, cs = [.slice A l.length c] ∧ l.length ≤ 1000000000000000 ∧ Row W A (bL l) ∧ True) :=
  rdw_map (rdw_slice Try.underlying55 (by kernel_rfl) (by decide) (bytes := 1) (by kernel_rfl) rdw_bS) fun l cs ⟨A, c, css, h1, h2, _, h5, h3, h4⟩ => ⟨A, c, h1, by unfold reachBytes at h5; omega, bools_row h3 h4, trivial⟩
theorem earP_lt {h : List (List Int)} {l : List Bool} {i p : Nat} (hp : earP h l i = some p) : p < h.length := (earP_inv hp).2.2.1
def CmAt (w : World) (n : Nat) (x : Value) (wr : World) : Prop := ∃ j : Nat, j ≤ n ∧ x = .int .i64 j ∧ Grew w wr
theorem row_ears {w : World} {A : Option Addr} {E : List (Nat × Nat)} (h : Row w A (eV E)) {i : Nat} (hi : i < E.length) : ∃ b o, A = some ⟨b, o, none⟩ ∧ b < w.heap.size ∧ w.cell? ⟨b, o + i * 2, none⟩ = some (.int .i64 E[i].1) ∧ w.cell? ⟨b, o + i * 2 + 1, none⟩ = some (.int .i64 E[i].2) := by
  rcases h with h | ⟨b, o, hA, hb, hc⟩
  · have := eV_len E
    rw [h] at this
    simp at this
    omega
  · exact ⟨b, o, hA, hb, hc _ _ (eV_at hi).1, by rw [Nat.add_assoc]; exact hc _ _ (eV_at hi).2⟩
end Go.Proofs.Ytpdkacfhnmfmaaa
