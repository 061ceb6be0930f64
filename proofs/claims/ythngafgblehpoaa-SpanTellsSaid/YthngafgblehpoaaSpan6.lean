/- Layer 19: may a value be among others: the document's own answer. Condition: texts that fit into memory. -/
import Derived.Test.YthngafgblehpoaaSpan5
namespace Go.Proofs.Ythngafgblehpoaa
open Go.RowKit
attribute [local go_sem] more_cell more_frozen more_more more_setCell more_of_drew more_of_drewN lt_more le_more past_cell past_cell2 past_frozen past_frozen2 past_setCell past_setCell2 mid_cell mid_frozen mid_setCell
attribute [local go_sem ↓] Go.wp_at_zero Go.wp_at_succ

theorem mid_cell2 (w : World) (x y : Xs) (o p : Obj) (n i : Nat) (h : n < w.heap.size) : (more (((more w x).alloc o).alloc p) y).cell? ⟨n, i, none⟩ = w.cell? ⟨n, i, none⟩ := by
  rw [more_cell _ _ _ (by rw [World.size_alloc, World.size_alloc, more_size]; show n < _; omega), past_cell2 _ _ _ _ _ _ h]
attribute [local go_sem] mid_cell2
set_option maxHeartbeats 4000000 in
theorem rhas_to (l : List V) (A : Option Addr) (n c : Nat) (hn : l.length = n) (hl : n ≤ 1000000) (hs : ∀ v ∈ l, v.s.size ≤ maxLen) (v : V) (hz : v.s.size ≤ maxLen) (s : S) (hS : addS zeroS l = s) (t : Bool) (ht : hasS s v = t) (w : World) (hr : VRow w A l) :
    Gives Try.prog 37 #[.slice A n c, va v] w (.bool t) := by
  unfold Gives
  subst hn ht
  have hI := Is.of l
  rw [hS] at hI
  have HL : Hid (0 < s.whole → s.low.s.size ≤ maxLen) := Lib.hid fun h => hs _ (List.mem_filter.1 (hI.low h).1).1
  have HR := Lib.hid hr
  obtain ⟨⟨lk, li, ls⟩, ⟨hk, hi, hh⟩, wh, nu⟩ := s
  obtain ⟨k, i, x⟩ := v
  have HE : Hid (∀ W, VRow W A l → Gives Try.prog 30 #[.slice A l.length c] W (.tuple #[.agg #[.int .i64 lk, .int .i64 li, .string ls], .agg #[.int .i64 hk, .int .i64 hi, .string hh], .bool (decide (0 < wh)), .bool (decide (0 < nu))])) := Lib.hid fun W hW => ends_val l A c hl hs W hW _ hS
  clear hI hr hs hS
  show Calls Try.prog 37 #[.slice A l.length c, .agg #[.int .i64 k, .int .i64 i, .string x]] w _
  by_cases h : k = 0
  · have hb : (k == 0) = true := by rw [beq_iff_eq]; exact h
    have e : hasS ⟨⟨lk, li, ls⟩, ⟨hk, hi, hh⟩, wh, nu⟩ ⟨k, i, x⟩ = decide (0 < nu) := if_pos h
    rw [e]
    clear h e
    go_enter Try.func37, Try.ntmps37
    go_wp2_with (first | (go_at_call 30; refine (HE.out _ (by exact HR.out.grew (by (show Grew _ _; repeat (first | exact Grew.refl _ | refine Grew.alloc ?_ _ | refine Grew.drew ?_ | refine Grew.more ?_ _))))).mono ?_; rintro e w' ⟨rfl, x, rfl⟩))
    go_ret
    exact ⟨rfl, by (show Grew _ _; repeat (first | exact Grew.refl _ | refine Grew.alloc ?_ _ | refine Grew.drew ?_ | refine Grew.more ?_ _))⟩
  · have hb : (k == 0) = false := by rw [beq_eq_false_iff_ne]; exact h
    have e : hasS ⟨⟨lk, li, ls⟩, ⟨hk, hi, hh⟩, wh, nu⟩ ⟨k, i, x⟩ = decide (0 < wh ∧ 0 ≤ ord ⟨k, i, x⟩ ⟨lk, li, ls⟩ ∧ ord ⟨k, i, x⟩ ⟨hk, hi, hh⟩ ≤ 0) := if_neg h
    rw [e]
    clear h e
    have ha := ord_anti ⟨k, i, x⟩ ⟨lk, li, ls⟩
    obtain ⟨p, hp⟩ : ∃ p, ord ⟨lk, li, ls⟩ ⟨k, i, x⟩ = p := ⟨_, rfl⟩
    obtain ⟨q, hq⟩ : ∃ q, ord ⟨k, i, x⟩ ⟨hk, hi, hh⟩ = q := ⟨_, rfl⟩
    rw [ha, hp, hq]
    by_cases hw : 0 < wh
    · have HO1 : Hid (∀ W, Gives Try.prog 89 #[.agg #[.int .i64 lk, .int .i64 li, .string ls], .agg #[.int .i64 k, .int .i64 i, .string x]] W (.int .i64 p)) := Lib.hid fun W => rorder_to _ _ _ _ _ _ _ (HL.out hw) hp W
      have HO2 : Hid (∀ W, Gives Try.prog 89 #[.agg #[.int .i64 k, .int .i64 i, .string x], .agg #[.int .i64 hk, .int .i64 hi, .string hh]] W (.int .i64 q)) := Lib.hid fun W => rorder_to _ _ _ _ _ _ _ hz hq W
      have hd : decide (0 < wh) = true := decide_eq_true hw
      clear ha hp hq HL hz
      rcases (by omega : 0 < p ∨ (p ≤ 0 ∧ 0 < q) ∨ (p ≤ 0 ∧ q ≤ 0)) with h1 | ⟨h1, h2⟩ | ⟨h1, h2⟩
      rotate_right
      · rw [decide_eq_true (show 0 < wh ∧ 0 ≤ -p ∧ q ≤ 0 by omega)]
        go_enter Try.func37, Try.ntmps37
        go_wp2_with (first | (go_at_call 30; refine (HE.out _ (by exact HR.out.grew (by (show Grew _ _; repeat (first | exact Grew.refl _ | refine Grew.alloc ?_ _ | refine Grew.drew ?_ | refine Grew.more ?_ _))))).mono ?_; rintro e w' ⟨rfl, x, rfl⟩) | (go_at_call_of 89 (Value.agg #[Value.int .i64 lk, Value.int .i64 li, Value.string ls]); refine (HO1.out _).mono ?_; rintro e w' ⟨rfl, x1, rfl⟩) | (go_at_call_of 89 (Value.agg #[Value.int .i64 hk, Value.int .i64 hi, Value.string hh]); refine (HO2.out _).mono ?_; rintro e w' ⟨rfl, x2, rfl⟩))
        go_ret
        exact ⟨rfl, by (show Grew _ _; repeat (first | exact Grew.refl _ | refine Grew.alloc ?_ _ | refine Grew.drew ?_ | refine Grew.more ?_ _))⟩
      all_goals
        rw [decide_eq_false (show ¬ (0 < wh ∧ 0 ≤ -p ∧ q ≤ 0) by omega)]
        go_enter Try.func37, Try.ntmps37
        go_wp2_with (first | (go_at_call 30; refine (HE.out _ (by exact HR.out.grew (by (show Grew _ _; repeat (first | exact Grew.refl _ | refine Grew.alloc ?_ _ | refine Grew.drew ?_ | refine Grew.more ?_ _))))).mono ?_; rintro e w' ⟨rfl, x, rfl⟩) | (go_at_call_of 89 (Value.agg #[Value.int .i64 lk, Value.int .i64 li, Value.string ls]); refine (HO1.out _).mono ?_; rintro e w' ⟨rfl, x1, rfl⟩) | (go_at_call_of 89 (Value.agg #[Value.int .i64 hk, Value.int .i64 hi, Value.string hh]); refine (HO2.out _).mono ?_; rintro e w' ⟨rfl, x2, rfl⟩))
        go_ret
        exact ⟨by first | rfl | (show Ending.returned (.bool (decide (q ≤ 0))) = _; rw [decide_eq_false (by omega)]), by (show Grew _ _; repeat (first | exact Grew.refl _ | refine Grew.alloc ?_ _ | refine Grew.drew ?_ | refine Grew.more ?_ _))⟩
    · have hd : decide (0 < wh) = false := decide_eq_false hw
      rw [decide_eq_false (show ¬ (0 < wh ∧ 0 ≤ -p ∧ q ≤ 0) by omega)]
      clear ha hp hq HL hz
      go_enter Try.func37, Try.ntmps37
      go_wp2_with (first | (go_at_call 30; refine (HE.out _ (by exact HR.out.grew (by (show Grew _ _; repeat (first | exact Grew.refl _ | refine Grew.alloc ?_ _ | refine Grew.drew ?_ | refine Grew.more ?_ _))))).mono ?_; rintro e w' ⟨rfl, x, rfl⟩))
      go_ret
      exact ⟨rfl, by (show Grew _ _; repeat (first | exact Grew.refl _ | refine Grew.alloc ?_ _ | refine Grew.drew ?_ | refine Grew.more ?_ _))⟩
theorem row_of_vrow {w : World} {A : Option Addr} {l : List V} (h : VRow w A l) : Row w A (l.map vc).flatten := by
  have hf : ∀ (l : List V) (m : Nat) (u : Value), (l.map vc).flatten[m]? = some u → ∃ i j cs, m = i * 3 + j ∧ (l.map vc)[i]? = some cs ∧ cs[j]? = some u := by
    intro l
    induction l with
    | nil => intro m u h; simp at h
    | cons v l ih =>
      intro m u hu
      rw [List.map_cons, List.flatten_cons] at hu
      by_cases hm : m < 3
      · rw [List.getElem?_append_left (by simpa [vc] using hm)] at hu
        exact ⟨0, m, vc v, by omega, by simp, hu⟩
      · rw [List.getElem?_append_right (by simp [vc]; omega)] at hu
        obtain ⟨i, j, cs, h1, h2, h3⟩ := ih (m - 3) u (by simpa [vc] using hu)
        exact ⟨i + 1, j, cs, by omega, by simpa using h2, h3⟩
  rcases h with h | ⟨b, o, hA, hb, hc⟩
  · refine Or.inl ?_
    rw [h]
    rfl
  · refine Or.inr ⟨b, o, hA, hb, fun m u hu => ?_⟩
    obtain ⟨i, j, cs, rfl, h2, h3⟩ := hf l m u hu
    exact hc i cs h2 j u h3
theorem flat_len (l : List V) : (l.map vc).flatten.length = l.length * 3 := by
  induction l with
  | nil => rfl
  | cons v l ih => rw [List.map_cons, List.flatten_cons, List.length_append, ih]; simp [vc]; omega
theorem flat_one (l : List V) : ∀ u ∈ (l.map vc).flatten, u.oneCell' = true := by
  intro u hu
  obtain ⟨cs, h1, h2⟩ := List.mem_flatten.1 hu
  obtain ⟨v, _, rfl⟩ := List.mem_map.1 h1
  simp only [vc, List.mem_cons, List.not_mem_nil, or_false] at h2
  rcases h2 with rfl | rfl | rfl <;> rfl
theorem infoVal : (Try.prog.info? 44).map (fun i => (i.zero, i.size, i.bytes)) = some (some (.agg #[.int .i64 0, .int .i64 0, .string ⟨#[]⟩]), 3, 32) := by kernel_rfl
end Go.Proofs.Ythngafgblehpoaa
