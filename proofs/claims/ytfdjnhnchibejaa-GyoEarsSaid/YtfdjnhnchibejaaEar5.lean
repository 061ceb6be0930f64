/- Layer 22: the page's example; the law of ears. Condition: numbers that an int holds. -/
import Derived.Test.YtfdjnhnchibejaaEar4
namespace Go.Proofs.Ytfdjnhnchibejaa
open Go.RowKit
attribute [local go_sem] more_cell more_frozen more_more more_setCell more_of_drew more_of_drewN lt_more le_more past_cell past_cell2 past_frozen past_frozen2 past_setCell past_setCell2 mid_cell mid_frozen mid_setCell
attribute [local go_sem ↓] Go.wp_at_zero Go.wp_at_succ

def earOk2 (h : List (List Int)) (l : List Bool) (i p : Nat) : Bool :=
  (List.range h.length).all fun k => !(k != i && thB l k) || (edgeAt h i).all fun x => !decide (x ∈ edgeAt h k) || decide (x ∈ edgeAt h p)
theorem earOk_eq (h : List (List Int)) (l : List Bool) (i p : Nat) : earOk h l i p = earOk2 h l i p := by
  rw [Bool.eq_iff_iff, earOk_iff]
  unfold earOk2
  rw [List.all_eq_true]
  constructor
  · intro H k hk
    by_cases e : k = i
    · subst e; simp
    · cases hl : thB l k
      · simp
      · have e' : (k != i) = true := by simpa using e
        rw [e']
        simp only [Bool.and_self, Bool.not_true, Bool.false_or, List.all_eq_true, Bool.or_eq_true, Bool.not_eq_true', decide_eq_false_iff_not, decide_eq_true_iff]
        intro x hx
        by_cases h2 : x ∈ edgeAt h k
        · exact Or.inr (H k (List.mem_range.1 hk) e hl x hx h2)
        · exact Or.inl h2
  · intro H k hk hki hl x h1 h2
    have := H k (List.mem_range.2 hk)
    have e' : (k != i) = true := by simpa using hki
    rw [e', hl] at this
    simp only [Bool.and_self, Bool.not_true, Bool.false_or, List.all_eq_true, Bool.or_eq_true, Bool.not_eq_true', decide_eq_false_iff_not, decide_eq_true_iff] at this
    rcases this x h1 with h3 | h3
    · exact absurd h2 h3
    · exact h3
def earP2 (h : List (List Int)) (l : List Bool) (i : Nat) : Option Nat := if decide (i < h.length) && thB l i then (List.range h.length).find? (fun p => p != i && thB l p && earOk2 h l i p) else none
theorem earP_eq : earP = earP2 := by
  funext h l i
  unfold earP earP2
  have : earQ h l i = fun p => p != i && thB l p && earOk2 h l i p := by
    funext p
    unfold earQ
    rw [earOk_eq]
  rw [this]
theorem stepE_eq (h : List (List Int)) (l : List Bool) : stepE h l = (match (List.range h.length).find? fun i => (earP2 h l i).isSome with | none => none | some i => (earP2 h l i).map fun p => (i, p)) := by
  unfold stepE
  rw [earP_eq]
  rfl
def liveE1 : List (List Int) := [[1, 2], [2, 3], [1, 3]]
def liveE2 : List (List Int) := [[1, 2], [2, 3], [1, 3], [1, 2, 3]]
theorem liveE1_left : decide ((leftI liveE1).length ≤ 1) = false := by
  have h0 : stepE liveE1 (earsS liveE1 0).2 = none := by
    rw [stepE_eq]
    show (match (List.range liveE1.length).find? fun i => (earP2 liveE1 (List.replicate 3 true) i).isSome with | none => none | some i => (earP2 liveE1 (List.replicate 3 true) i).map fun p => (i, p)) = none
    decide +kernel
  have h1 := earsS_end (h := liveE1) (k := 0) rfl h0
  have h2 := leftI_len liveE1
  rw [h1] at h2
  have h3 : (earsS liveE1 0).1.length = 0 := rfl
  have h4 : liveE1.length = 3 := rfl
  exact decide_eq_false (by omega)
theorem liveE2_left : decide ((leftI liveE2).length ≤ 1) = true := by
  have s0 : stepE liveE2 (earsS liveE2 0).2 = some (0, 3) := by
    rw [stepE_eq]
    show (match (List.range liveE2.length).find? fun i => (earP2 liveE2 (List.replicate 4 true) i).isSome with | none => none | some i => (earP2 liveE2 (List.replicate 4 true) i).map fun p => (i, p)) = _
    decide +kernel
  have e1 : earsS liveE2 1 = ([(0, 3)], [false, true, true, true]) := earsS_some s0
  have s1 : stepE liveE2 (earsS liveE2 1).2 = some (1, 3) := by
    rw [e1, stepE_eq]
    decide +kernel
  have e2 : earsS liveE2 2 = ([(0, 3), (1, 3)], [false, false, true, true]) := by
    rw [earsS_some s1, e1]
    rfl
  have s2 : stepE liveE2 (earsS liveE2 2).2 = some (2, 3) := by
    rw [e2, stepE_eq]
    decide +kernel
  have e3 : earsS liveE2 3 = ([(0, 3), (1, 3), (2, 3)], [false, false, false, true]) := by
    rw [earsS_some s2, e2]
    rfl
  have s3 : stepE liveE2 (earsS liveE2 3).2 = none := by
    rw [e3, stepE_eq]
    decide +kernel
  have h1 := earsS_end (h := liveE2) (k := 3) (by rw [e3]; rfl) s3
  have h2 := leftI_len liveE2
  rw [h1, e3] at h2
  have h4 : liveE2.length = 4 := rfl
  simp only [List.length_cons, List.length_nil] at h2
  exact decide_eq_true (by omega)
theorem gridI_four {w : World} {A : Option Addr} {l m p q : List Int} {B C D E : Option Addr} {b c d e : Nat} (hB : Row w B (iV l)) (hC : Row w C (iV m)) (hD : Row w D (iV p)) (hE : Row w E (iV q)) (hA : Row w A [.slice B l.length b, .slice C m.length c, .slice D p.length d, .slice E q.length e]) : GridI (PRow w) A [l, m, p, q] := by
  refine ⟨[[.slice B l.length b], [.slice C m.length c], [.slice D p.length d], [.slice E q.length e]], ⟨rfl, fun i x cs h1 h2 => ?_⟩, hA⟩
  match i with
  | 0 => simp at h1 h2; subst h1 h2; exact ⟨⟨B, b, rfl, hB⟩, rfl⟩
  | 1 => simp at h1 h2; subst h1 h2; exact ⟨⟨C, c, rfl, hC⟩, rfl⟩
  | 2 => simp at h1 h2; subst h1 h2; exact ⟨⟨D, d, rfl, hD⟩, rfl⟩
  | 3 => simp at h1 h2; subst h1 h2; exact ⟨⟨E, e, rfl, hE⟩, rfl⟩
  | i + 4 => simp at h1
def live22A (w : World) : World := (((w.alloc (.cells #[.int .i64 1, .int .i64 2] 3)).alloc (.cells #[.int .i64 2, .int .i64 3] 3)).alloc (.cells #[.int .i64 1, .int .i64 3] 3)).alloc (.cells #[.slice (some ⟨w.heap.size, 0, none⟩) 2 2, .slice (some ⟨w.heap.size + 1, 0, none⟩) 2 2, .slice (some ⟨w.heap.size + 2, 0, none⟩) 2 2] 38)
theorem live22A_grid (w : World) : GridI (PRow (live22A w)) (some ⟨w.heap.size + 3, 0, none⟩) liveE1 :=
  gridI_three (l := [1, 2]) (m := [2, 3]) (p := [1, 3]) (b := 2) (c := 2) (d := 2) (row_alloc (row_alloc (row_alloc (row_new _ _ _ _ rfl) _) _) _) (row_alloc (row_alloc (row_new _ _ _ _ (by simp)) _) _) (row_alloc (row_new _ _ _ _ (by simp)) _) (row_new _ _ _ #[_, _, _] (by simp))
def live22B (w : World) : World := ((((w.alloc (.cells #[.int .i64 1, .int .i64 2] 3)).alloc (.cells #[.int .i64 2, .int .i64 3] 3)).alloc (.cells #[.int .i64 1, .int .i64 3] 3)).alloc (.cells #[.int .i64 1, .int .i64 2, .int .i64 3] 3)).alloc (.cells #[.slice (some ⟨w.heap.size, 0, none⟩) 2 2, .slice (some ⟨w.heap.size + 1, 0, none⟩) 2 2, .slice (some ⟨w.heap.size + 2, 0, none⟩) 2 2, .slice (some ⟨w.heap.size + 3, 0, none⟩) 3 3] 38)
theorem live22B_grid (w : World) : GridI (PRow (live22B w)) (some ⟨w.heap.size + 4, 0, none⟩) liveE2 :=
  gridI_four (l := [1, 2]) (m := [2, 3]) (p := [1, 3]) (q := [1, 2, 3]) (b := 2) (c := 2) (d := 2) (e := 3) (row_alloc (row_alloc (row_alloc (row_alloc (row_new _ _ _ _ rfl) _) _) _) _) (row_alloc (row_alloc (row_alloc (row_new _ _ _ _ (by simp)) _) _) _) (row_alloc (row_alloc (row_new _ _ _ _ (by simp)) _) _) (row_alloc (row_new _ _ _ _ (by simp)) _) (row_new _ _ _ #[_, _, _, _] (by simp))
theorem live22_any (w : World) : Gives Try.prog 72 #[] w (.bool true) := by
  have H1 := Lib.hid (acyclic22_any liveE1 3 rfl (by decide) (by unfold wfG wfL wfI liveE1; decide) (by unfold liveE1; decide) _ 3 (live22A w) (live22A_grid w))
  have H2 := Lib.hid (fun W => acyclic22_any liveE2 4 rfl (by decide) (by unfold wfG wfL wfI liveE2; decide) (by unfold liveE2; decide) _ 4 (live22B W) (live22B_grid W))
  rw [liveE1_left] at H1
  rw [liveE2_left] at H2
  have HG0 : Hid (Grew w (live22A w)) := Lib.hid (by unfold live22A; exact ((((Grew.refl w).alloc _).alloc _).alloc _).alloc _)
  have HGB : Hid (∀ W, Grew W (live22B W)) := Lib.hid fun W => (by unfold live22B; exact (((((Grew.refl W).alloc _).alloc _).alloc _).alloc _).alloc _)
  unfold live22A at H1 HG0
  unfold live22B at H2 HGB
  unfold Gives
  go_enter Try.func72, Try.ntmps72
  go_wp2_with (first | (go_at_call 78; (with_reducible refine H1.out.grows.mono ?_); rintro e w5 ⟨rfl, hg5⟩; have HG5 := Lib.hid (HG0.out.trans hg5); clear hg5 H1 HG0) | (go_at_call 78; refine (H2.out w5).grows.mono ?_; rintro e w6 ⟨rfl, hg6⟩; have HG6 := Lib.hid ((HG5.out.trans (HGB.out w5)).trans hg6); clear hg6))
  go_ret
  exact ⟨rfl, HG6.out⟩
end Go.Proofs.Ytfdjnhnchibejaa
