/- Layer 13: signs of one part and of two, by the program. Condition: what the parts are told to be. -/
import Derived.Test.YtddambfniaiogaaTruthMath
import Derived.Test.YtddambfniaiogaaEval3
namespace Go.Proofs.Ytddambfniaiogaa
open Go.RowKit
attribute [local go_sem] more_cell more_frozen more_more more_setCell more_of_drew more_of_drewN lt_more le_more past_cell past_cell2 past_frozen past_frozen2 past_setCell past_setCell2 mid_cell mid_frozen mid_setCell
attribute [local go_sem ↓] Go.wp_at_zero Go.wp_at_succ

/-- What a part is told to be, in every world that has grown. -/
def ValC (w : World) (g2 g3 : Nat) (i : Int) (y : Vl) (f : Int) : Prop := ∀ W, Grew w W → Gives Try.prog 96 #[.int .i64 i, .pointer (some ⟨g2, 0, none⟩), .pointer (some ⟨g3, 0, none⟩)] W (.tuple #[.agg #[.int .i64 y.k, .int .i64 y.i, .string y.s], .int .i64 f])
def TruC (w : World) (g2 g3 : Nat) (i t : Int) : Prop := ∀ W, Grew w W → Gives Try.prog 97 #[.int .i64 i, .pointer (some ⟨g2, 0, none⟩), .pointer (some ⟨g3, 0, none⟩)] W (.int .i64 t)
def clV1 (g2 g3 : Nat) : Value := .func (.func 96) #[] #[.pointer (some ⟨g2, 0, none⟩), .pointer (some ⟨g3, 0, none⟩)]
def clV2 (g2 g3 : Nat) : Value := .func (.func 97) #[] #[.pointer (some ⟨g2, 0, none⟩), .pointer (some ⟨g3, 0, none⟩)]
theorem one_not (g2 g3 : Nat) (w : World) (t : Int) (h : TruC w g2 g3 0 t) : Gives Try.prog 98 #[.int .i64 12, clV1 g2 g3, clV2 g2 g3] w (.int .i64 (notT t)) := by
  have HT := Lib.hid h
  clear h
  unfold TruC at HT
  unfold clV1 clV2 Gives
  go_enter Try.func98, Try.ntmps98
  go_wp2_with (first
    | (go_at_call 97; (with_reducible refine (HT.out _ (Grew.refl _)).grows.mono ?_); rintro e w1 ⟨rfl, hg1⟩; have HG1 : Hid (Grew w w1) := Lib.hid hg1; clear hg1)
    | (go_at_call 155; refine (not_any _ _).mono ?_; rintro e w' ⟨rfl, rfl⟩))
  go_ret
  exact ⟨rfl, HG1.out⟩
theorem one_null (o14 : Bool) (g2 g3 : Nat) (w : World) (y : Vl) (f : Int) (h : ValC w g2 g3 0 y f) : Gives Try.prog 98 #[.int .i64 (if o14 then 14 else 13), clV1 g2 g3, clV2 g2 g3] w (.int .i64 (if o14 then notT (ofT (nullP (y, f))) else ofT (nullP (y, f)))) := by
  have HT := Lib.hid h
  clear h
  unfold ValC at HT
  by_cases hf : f = 0
  · subst hf
    have e : nullP (y, 0) = (y.k == 0) := by simp [nullP]
    rw [e]
    clear e
    unfold clV1 clV2 Gives
    cases o14
    all_goals
      simp only [Bool.false_eq_true, if_false, if_true]
      go_enter Try.func98, Try.ntmps98
      go_wp2_with (first
        | (go_at_call 96; (with_reducible refine (HT.out _ (Grew.refl _)).grows.mono ?_); rintro e w1 ⟨rfl, hg1⟩; have HG1 : Hid (Grew w w1) := Lib.hid hg1; clear hg1)
        | (go_at_call 105; (with_reducible refine (isnull_any _ _ _ _).grows.mono ?_); rintro e w2 ⟨rfl, hg2⟩; have HG2 : Hid (Grew w w2) := Lib.hid ((HG1.out.alloc _).trans hg2); clear hg2)
        | (go_at_call 156; refine (of_any _ _).mono ?_; rintro e w' ⟨rfl, rfl⟩)
        | (go_at_call 155; refine (not_any _ _).mono ?_; rintro e w' ⟨rfl, rfl⟩))
      go_ret
      exact ⟨rfl, HG2.out⟩
  · have e : nullP (y, f) = false := by simp [nullP, hf]
    rw [e]
    have e1 : (f == 0) = false := by rw [beq_eq_false_iff_ne]; exact hf
    clear e hf
    unfold clV1 clV2 Gives
    cases o14
    all_goals
      simp only [Bool.false_eq_true, if_false, if_true]
      go_enter Try.func98, Try.ntmps98
      go_wp2_with (first
        | (go_at_call 96; (with_reducible refine (HT.out _ (Grew.refl _)).grows.mono ?_); rintro e w1 ⟨rfl, hg1⟩; have HG1 : Hid (Grew w w1) := Lib.hid hg1; clear hg1)
        | (go_at_call 156; refine (of_any _ _).mono ?_; rintro e w' ⟨rfl, rfl⟩)
        | (go_at_call 155; refine (not_any _ _).mono ?_; rintro e w' ⟨rfl, rfl⟩))
      go_ret
      exact ⟨rfl, HG1.out.alloc _⟩
theorem one_else (op : Int) (h12 : (op == 12) = false) (h13 : (op == 13) = false) (h14 : (op == 14) = false) (g2 g3 : Nat) (w : World) : Gives Try.prog 98 #[.int .i64 op, clV1 g2 g3, clV2 g2 g3] w (.int .i64 2) := by
  unfold clV1 clV2 Gives
  go_enter Try.func98, Try.ntmps98
  go_wp2
  go_ret
  exact ⟨rfl, Grew.refl _⟩
theorem one_any (op : Int) (g2 g3 : Nat) (w : World) (y : Vl) (f t : Int) (hv : ValC w g2 g3 0 y f) (ht : TruC w g2 g3 0 t) : Gives Try.prog 98 #[.int .i64 op, clV1 g2 g3, clV2 g2 g3] w (.int .i64 (oneT op (y, f) t)) := by
  unfold oneT
  by_cases h12 : op = 12
  · rw [if_pos h12, h12]; exact one_not g2 g3 w t ht
  · rw [if_neg h12]
    by_cases h13 : op = 13
    · rw [if_pos h13, h13]; exact one_null false g2 g3 w y f hv
    · rw [if_neg h13]
      by_cases h14 : op = 14
      · rw [if_pos h14, h14]; exact one_null true g2 g3 w y f hv
      · rw [if_neg h14]
        exact one_else op (by rw [beq_eq_false_iff_ne]; exact h12) (by rw [beq_eq_false_iff_ne]; exact h13) (by rw [beq_eq_false_iff_ne]; exact h14) g2 g3 w
theorem two_and (g2 g3 : Nat) (w : World) (s t : Int) (hs : TruC w g2 g3 0 s) (ht : TruC w g2 g3 1 t) : Gives Try.prog 99 #[.int .i64 10, clV1 g2 g3, clV2 g2 g3] w (.int .i64 (andT s t)) := by
  have HS := Lib.hid hs
  have HT := Lib.hid ht
  clear hs ht
  unfold TruC at HS HT
  rw [← andL_two']
  unfold clV1 clV2 Gives
  go_enter Try.func99, Try.ntmps99
  go_wp2_with (first
    | (go_at_call 97; (with_reducible refine (HS.out _ (Grew.refl _)).grows.mono ?_); rintro e w1 ⟨rfl, hg1⟩; have HG1 : Hid (Grew w w1) := Lib.hid hg1; clear hg1)
    | (go_at_call 97; (with_reducible refine (HT.out _ HG1.out).grows.mono ?_); rintro e w2 ⟨rfl, hg2⟩; have HG2 : Hid (Grew w w2) := Lib.hid (HG1.out.trans hg2); clear hg2)
    | (go_at_call 157; refine (and_pair s t _ _ rfl).mono ?_; rintro e w' ⟨rfl, rfl⟩))
  go_ret
  exact ⟨rfl, HG2.out.alloc _⟩
theorem two_or (g2 g3 : Nat) (w : World) (s t : Int) (hs : TruC w g2 g3 0 s) (ht : TruC w g2 g3 1 t) : Gives Try.prog 99 #[.int .i64 11, clV1 g2 g3, clV2 g2 g3] w (.int .i64 (orT s t)) := by
  have HS := Lib.hid hs
  have HT := Lib.hid ht
  clear hs ht
  unfold TruC at HS HT
  rw [← orL_two']
  unfold clV1 clV2 Gives
  go_enter Try.func99, Try.ntmps99
  go_wp2_with (first
    | (go_at_call 97; (with_reducible refine (HS.out _ (Grew.refl _)).grows.mono ?_); rintro e w1 ⟨rfl, hg1⟩; have HG1 : Hid (Grew w w1) := Lib.hid hg1; clear hg1)
    | (go_at_call 97; (with_reducible refine (HT.out _ HG1.out).grows.mono ?_); rintro e w2 ⟨rfl, hg2⟩; have HG2 : Hid (Grew w w2) := Lib.hid (HG1.out.trans hg2); clear hg2)
    | (go_at_call 158; refine (or_pair s t _ _ rfl).mono ?_; rintro e w' ⟨rfl, rfl⟩))
  go_ret
  exact ⟨rfl, HG2.out.alloc _⟩
set_option maxHeartbeats 8000000 in
theorem two_test (op : Int) (g2 g3 : Nat) (w : World) (a b : Vl) (f g : Int) (h10 : (op == 10) = false) (h11 : (op == 11) = false) (h1 : 1 ≤ op) (h6 : op ≤ 6) (hs : ValC w g2 g3 0 a f) (ht : ValC w g2 g3 1 b g) : Gives Try.prog 99 #[.int .i64 op, clV1 g2 g3, clV2 g2 g3] w (.int .i64 (testP op (a, f) (b, g))) := by
  have HS := Lib.hid hs
  have HT := Lib.hid ht
  clear hs ht
  unfold ValC at HS HT
  obtain ⟨r, hr⟩ : ∃ r, testP op (a, f) (b, g) = r := ⟨_, rfl⟩
  rw [hr]
  have HR := Lib.hid hr
  have HX : Hid (∀ w, Gives Try.prog 159 #[.int .i64 op, .agg #[.int .i64 a.k, .int .i64 a.i, .string a.s], .agg #[.int .i64 b.k, .int .i64 b.i, .string b.s]] w (.int .i64 (testT op (cmpB a.k b.k) (cmpN a.k a.i a.s b.k b.i b.s)))) := Lib.hid fun w => test_any _ _ _ _ _ _ _ w
  clear hr
  have HO : Hid ((op == 1) = true ∨ ((op == 1) = false ∧ (op == 2) = true) ∨ ((op == 1) = false ∧ (op == 2) = false ∧ (op == 3) = true) ∨ ((op == 1) = false ∧ (op == 2) = false ∧ (op == 3) = false ∧ (op == 4) = true) ∨ ((op == 1) = false ∧ (op == 2) = false ∧ (op == 3) = false ∧ (op == 4) = false ∧ (op == 5) = true) ∨ ((op == 1) = false ∧ (op == 2) = false ∧ (op == 3) = false ∧ (op == 4) = false ∧ (op == 5) = false ∧ (op == 6) = true)) := Lib.hid (by simp only [beq_iff_eq, beq_eq_false_iff_ne]; omega)
  clear h1 h6
  unfold clV1 clV2 Gives
  go_enter Try.func99, Try.ntmps99
  go_upto_region 2 with fail
  by_cases hf : f = 0
  · by_cases hg : g = 0
    · subst hf hg
      obtain hd : testT op (cmpB a.k b.k) (cmpN a.k a.i a.s b.k b.i b.s) = r := by
        have := HR.out
        simpa [testP] using this
      simp only [hd] at HX
      clear HR hd
      rcases HO.out with q1 | ⟨q1, q2⟩ | ⟨q1, q2, q3⟩ | ⟨q1, q2, q3, q4⟩ | ⟨q1, q2, q3, q4, q5⟩ | ⟨q1, q2, q3, q4, q5, q6⟩
      all_goals
        clear HO
        go_wp2_with (first
          | (go_at_call 96; (with_reducible refine (HS.out _ (Grew.refl _)).grows.mono ?_); rintro e w1 ⟨rfl, hg1⟩; have HG1 : Hid (Grew w w1) := Lib.hid hg1; clear hg1; have HY1 := Lib.hid (Blok.new w1 23 #[.int .i64 a.k, .int .i64 a.i, .string a.s] w1.heap.size rfl))
          | (go_at_call 96; (with_reducible refine (HT.out _ (HG1.out.alloc _)).grows.mono ?_); rintro e w2 ⟨rfl, hg2⟩; have HG2 : Hid (Grew w w2) := Lib.hid ((HG1.out.alloc _).trans hg2); obtain ⟨l0, y0, y1, y2, _, _, _⟩ := val_in (HY1.out.grew hg2); clear hg2)
          | (go_at_call 159; (with_reducible refine (HX.out _).grows.mono ?_); rintro e w3 ⟨rfl, hg3⟩; have HG3 : Hid (Grew w w3) := Lib.hid ((HG2.out.alloc _).trans hg3); clear hg3))
        go_ret
        exact ⟨rfl, HG3.out⟩
    · subst hf
      obtain rfl : 2 = r := by
        have := HR.out
        simpa [testP, hg] using this
      have e1 : (g != 0) = true := by rw [bne_iff_ne]; exact hg
      clear HR hg HX
      rcases HO.out with q1 | ⟨q1, q2⟩ | ⟨q1, q2, q3⟩ | ⟨q1, q2, q3, q4⟩ | ⟨q1, q2, q3, q4, q5⟩ | ⟨q1, q2, q3, q4, q5, q6⟩
      all_goals
        clear HO
        go_wp2_with (first
          | (go_at_call 96; (with_reducible refine (HS.out _ (Grew.refl _)).grows.mono ?_); rintro e w1 ⟨rfl, hg1⟩; have HG1 : Hid (Grew w w1) := Lib.hid hg1; clear hg1)
          | (go_at_call 96; (with_reducible refine (HT.out _ (HG1.out.alloc _)).grows.mono ?_); rintro e w2 ⟨rfl, hg2⟩; have HG2 : Hid (Grew w w2) := Lib.hid ((HG1.out.alloc _).trans hg2); clear hg2))
        go_ret
        exact ⟨rfl, HG2.out.alloc _⟩
  · obtain rfl : 2 = r := by
      have := HR.out
      simpa [testP, hf] using this
    have e1 : (f != 0) = true := by rw [bne_iff_ne]; exact hf
    clear HR hf HX
    rcases HO.out with q1 | ⟨q1, q2⟩ | ⟨q1, q2, q3⟩ | ⟨q1, q2, q3, q4⟩ | ⟨q1, q2, q3, q4, q5⟩ | ⟨q1, q2, q3, q4, q5, q6⟩
    all_goals
      clear HO
      go_wp2_with (first
        | (go_at_call 96; (with_reducible refine (HS.out _ (Grew.refl _)).grows.mono ?_); rintro e w1 ⟨rfl, hg1⟩; have HG1 : Hid (Grew w w1) := Lib.hid hg1; clear hg1)
        | (go_at_call 96; (with_reducible refine (HT.out _ (HG1.out.alloc _)).grows.mono ?_); rintro e w2 ⟨rfl, hg2⟩; have HG2 : Hid (Grew w w2) := Lib.hid ((HG1.out.alloc _).trans hg2); clear hg2))
      go_ret
      exact ⟨rfl, HG2.out.alloc _⟩
theorem two_else (op : Int) (h10 : (op == 10) = false) (h11 : (op == 11) = false) (h1 : (op == 1) = false) (h2 : (op == 2) = false) (h3 : (op == 3) = false) (h4 : (op == 4) = false) (h5 : (op == 5) = false) (h6 : (op == 6) = false) (g2 g3 : Nat) (w : World) : Gives Try.prog 99 #[.int .i64 op, clV1 g2 g3, clV2 g2 g3] w (.int .i64 2) := by
  unfold clV1 clV2 Gives
  go_enter Try.func99, Try.ntmps99
  go_wp2
  go_ret
  exact ⟨rfl, Grew.refl _⟩
theorem two_any (op : Int) (g2 g3 : Nat) (w : World) (a b : Vl) (f g s t : Int) (hv0 : ValC w g2 g3 0 a f) (hv1 : ValC w g2 g3 1 b g) (ht0 : TruC w g2 g3 0 s) (ht1 : TruC w g2 g3 1 t) : Gives Try.prog 99 #[.int .i64 op, clV1 g2 g3, clV2 g2 g3] w (.int .i64 (twoT op (a, f) (b, g) s t)) := by
  unfold twoT
  by_cases h10 : op = 10
  · rw [if_pos h10, h10]; exact two_and g2 g3 w s t ht0 ht1
  · rw [if_neg h10]
    by_cases h11 : op = 11
    · rw [if_pos h11, h11]; exact two_or g2 g3 w s t ht0 ht1
    · rw [if_neg h11]
      by_cases h : 1 ≤ op ∧ op ≤ 6
      · rw [if_pos h]
        exact two_test op g2 g3 w a b f g (by rw [beq_eq_false_iff_ne]; exact h10) (by rw [beq_eq_false_iff_ne]; exact h11) h.1 h.2 hv0 hv1
      · rw [if_neg h]
        apply two_else
        all_goals (rw [beq_eq_false_iff_ne]; omega)
end Go.Proofs.Ytddambfniaiogaa
