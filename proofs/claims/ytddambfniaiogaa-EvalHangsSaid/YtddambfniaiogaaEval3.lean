/- Layer 13: two sides, by the program. Condition: rows and expressions that lie in memory that is there. -/
import Derived.Test.YtddambfniaiogaaEval2
namespace Go.Proofs.Ytddambfniaiogaa
open Go.RowKit
attribute [local go_sem] more_cell more_frozen more_more more_setCell more_of_drew more_of_drewN lt_more le_more past_cell past_cell2 past_frozen past_frozen2 past_setCell past_setCell2 mid_cell mid_frozen mid_setCell
attribute [local go_sem ↓] Go.wp_at_zero Go.wp_at_succ

set_option maxHeartbeats 1000000 in
theorem sides_not (x : Ex) (A : Option Addr) (k : Nat) (g2 g3 : Nat) (w : World) (hl : ¬ x.l.length = 2) :
    Gives Try.prog 87 #[exV x A k, .func (.func 88) #[] #[.pointer (some ⟨g2, 0, none⟩), .pointer (some ⟨g3, 0, none⟩)]] w (.tuple #[vlV zV, .int .i64 3]) := by
  have e0 : ((x.l.length : Int) != 2) = true := by rw [bne_iff_ne]; omega
  clear hl
  unfold Gives exV vlV zV
  generalize x.l.length = n at *
  go_enter Try.func87, Try.ntmps87
  go_wp2
  exact bodyPost_ret (v := .tuple #[.agg #[.int .i64 0, .int .i64 0, .string ⟨#[]⟩], .int .i64 3]) (by simp [results, Try.results87, go_sem]) rfl ⟨rfl, by show Grew w _; repeat (first | exact Grew.refl _ | refine Grew.setCell ?_ (by simp) _ | refine Grew.alloc ?_ _ | refine Grew.drew ?_ | refine Grew.more ?_ _)⟩
set_option maxHeartbeats 1000000 in
set_option maxRecDepth 20000 in
theorem sides_two (x : Ex) (A : Option Addr) (k : Nat) (g2 g3 : Nat) (w : World) (hl : x.l.length = 2) (y0 y1 : Vl) (f0 f1 : Int) (hi0 : isI y0.i) (hi1 : isI y1.i)
    (h0 : ∀ W, Grew w W → Gives Try.prog 88 #[.int .i64 0, .pointer (some ⟨g2, 0, none⟩), .pointer (some ⟨g3, 0, none⟩)] W (.tuple #[vlV y0, .int .i64 f0]))
    (h1 : ∀ W, Grew w W → Gives Try.prog 88 #[.int .i64 1, .pointer (some ⟨g2, 0, none⟩), .pointer (some ⟨g3, 0, none⟩)] W (.tuple #[vlV y1, .int .i64 f1])) :
    Gives Try.prog 87 #[exV x A k, .func (.func 88) #[] #[.pointer (some ⟨g2, 0, none⟩), .pointer (some ⟨g3, 0, none⟩)]] w (.tuple #[vlV (sidesP x.op (y0, f0) (y1, f1)).1, .int .i64 (sidesP x.op (y0, f0) (y1, f1)).2]) := by
  have e0 : ((x.l.length : Int) != 2) = false := by rw [hl]; rfl
  have H0 := Lib.hid h0
  have H1 := Lib.hid h1
  have HD : Hid (∀ w, Gives Try.prog 149 #[.int .i64 x.op, .agg #[.int .i64 y0.k, .int .i64 y0.i, .string y0.s], .agg #[.int .i64 y1.k, .int .i64 y1.i, .string y1.s]] w (.tuple #[vlV (doP x.op y0 y1).1, .int .i64 (doP x.op y0 y1).2])) := Lib.hid fun w => do_any _ _ _ _ _ _ _ hi0 hi1 w
  obtain ⟨W0, hW0⟩ : ∃ W0, W0 = (w.alloc (.cells (exC x A k).toArray 26)).alloc (.cells #[.int .i64 0, .int .i64 0, .string ⟨#[]⟩] 23) := ⟨_, rfl⟩
  have HG0 : Hid (Grew w W0) := Lib.hid (by rw [hW0]; exact ((Grew.refl w).alloc _).alloc _)
  have HX0 : Hid (Blok W0 w.heap.size 26 (exC x A k).toArray) := Lib.hid (by rw [hW0]; exact (Blok.new _ _ _ _ rfl).alloc _)
  have HB0 : Hid (Blok W0 (w.heap.size + 1) 23 #[.int .i64 0, .int .i64 0, .string ⟨#[]⟩]) := Lib.hid (by rw [hW0]; exact Blok.new _ _ _ _ (by simp))
  clear hl h0 h1 hi0 hi1
  unfold vlV at H0 H1 HD
  obtain ⟨⟨r, rf⟩, hr⟩ : ∃ r, sidesP x.op (y0, f0) (y1, f1) = r := ⟨_, rfl⟩
  rw [hr]
  have HS := Lib.hid hr
  clear hr
  unfold Gives exV vlV
  unfold exC at hW0
  generalize x.l.length = n at *
  go_enter Try.func87, Try.ntmps87
  go_upto_region 3 with fail
  rw [← hW0]
  clear hW0
  by_cases hf0 : f0 = 0
  · subst hf0
    go_upto_region 6 with (first
      | (go_at_call 88; (with_reducible refine (H0.out _ HG0.out).grows.mono ?_); rintro e w1 ⟨rfl, hg1⟩; have HG1 : Hid (Grew w w1) := Lib.hid (HG0.out.trans hg1); have HX1 := Lib.hid (HX0.out.grew hg1); have HB1 := Lib.hid (HB0.out.grew hg1); clear hg1))
    have HY1 := Lib.hid (Blok.new w1 23 #[.int .i64 y0.k, .int .i64 y0.i, .string y0.s] w1.heap.size rfl)
    by_cases hf1 : f1 = 0
    · subst hf1
      obtain ⟨hd1, hd2⟩ : (doP x.op y0 y1).1 = r ∧ (doP x.op y0 y1).2 = rf := by
        have e : sidesP x.op (y0, 0) (y1, 0) = doP x.op y0 y1 := by simp [sidesP]
        have := HS.out
        rw [e] at this
        rw [this]
        exact ⟨rfl, rfl⟩
      simp only [hd1, hd2] at HD
      clear HS hd1 hd2
      go_upto_region 9 with (first
        | (go_at_call 88; (with_reducible refine (H1.out _ (HG1.out.alloc _)).grows.mono ?_); rintro e w2 ⟨rfl, hg2⟩; have HG2 : Hid (Grew w w2) := Lib.hid ((HG1.out.alloc _).trans hg2); have HX2 := Lib.hid ((HX1.out.alloc _).grew hg2); have HB2 := Lib.hid ((HB1.out.alloc _).grew hg2); have HY2 := Lib.hid (HY1.out.grew hg2); clear hg2))
      have HG3 := Lib.hid (HG2.out.alloc (.cells #[.int .i64 y1.k, .int .i64 y1.i, .string y1.s] 23))
      have HZ3 := Lib.hid (Blok.new w2 23 #[.int .i64 y1.k, .int .i64 y1.i, .string y1.s] w2.heap.size rfl)
      have HX3 := Lib.hid (HX2.out.alloc (.cells #[.int .i64 y1.k, .int .i64 y1.i, .string y1.s] 23))
      have HB3 := Lib.hid (HB2.out.alloc (.cells #[.int .i64 y1.k, .int .i64 y1.i, .string y1.s] 23))
      have HY3 := Lib.hid (HY2.out.alloc (.cells #[.int .i64 y1.k, .int .i64 y1.i, .string y1.s] 23))
      clear HX0 HX1 HX2 HB0 HB1 HB2 HY1 HY2 H0 H1 HG0
      generalize w2.alloc (.cells #[.int .i64 y1.k, .int .i64 y1.i, .string y1.s] 23) = w3 at *
      obtain ⟨q0, s0, s1, s2, s3, s4, s5, s6, s7, s8⟩ := blok9 HX3.out
      obtain ⟨p0, a0, a1, a2, _, _, _⟩ := val_in HY3.out
      obtain ⟨p1, b0, b1, b2, _, _, _⟩ := val_in HZ3.out
      obtain ⟨p2, c0, c1, c2, d0, d1, d2⟩ := val_in HB3.out
      go_wp2_with (first
        | (go_at_call 149; (with_reducible refine (HD.out _).grows.mono ?_); rintro e w4 ⟨rfl, hg4⟩; have HG4 : Hid (Grew w w4) := Lib.hid (HG3.out.trans hg4); have HB4 := Lib.hid (HB3.out.grew hg4); clear hg4; obtain ⟨p3, l0, l1, l2, m0, m1, m2⟩ := val_in HB4.out))
      have hb := val_set HB4.out (.int .i64 r.k) (.int .i64 r.i) (.string r.s)
      obtain ⟨_, r0, r1, r2, _, _, _⟩ := val_in hb
      exact bodyPost_ret (v := .tuple #[.agg #[.int .i64 r.k, .int .i64 r.i, .string r.s], .int .i64 rf]) (by simp [results, Try.results87, go_sem, r0, r1, r2]) rfl ⟨rfl, grew_set3 HG4.out (by omega) _ _ _⟩
    · obtain ⟨rfl, rfl⟩ : zV = r ∧ f1 = rf := by
        have e : sidesP x.op (y0, 0) (y1, f1) = (zV, f1) := by simp [sidesP, hf1]
        have := HS.out
        rw [e] at this
        simpa using this
      clear HS HD
      have e1 : (f1 != 0) = true := by rw [bne_iff_ne]; exact hf1
      clear hf1
      go_wp2_with (first
        | (go_at_call 88; (with_reducible refine (H1.out _ (HG1.out.alloc _)).grows.mono ?_); rintro e w2 ⟨rfl, hg2⟩; have HG2 : Hid (Grew w w2) := Lib.hid ((HG1.out.alloc _).trans hg2); have HB2 := Lib.hid ((HB1.out.alloc _).grew hg2); clear hg2; have HG3 := Lib.hid (HG2.out.alloc (.cells #[.int .i64 y1.k, .int .i64 y1.i, .string y1.s] 23)); have HB3 := Lib.hid (HB2.out.alloc (.cells #[.int .i64 y1.k, .int .i64 y1.i, .string y1.s] 23)); obtain ⟨p2, c0, c1, c2, d0, d1, d2⟩ := val_in HB3.out))
      have hb := val_set HB3.out (.int .i64 0) (.int .i64 0) (.string ⟨#[]⟩)
      obtain ⟨_, r0, r1, r2, _, _, _⟩ := val_in hb
      exact bodyPost_ret (v := .tuple #[.agg #[.int .i64 0, .int .i64 0, .string ⟨#[]⟩], .int .i64 f1]) (by simp [results, Try.results87, go_sem, r0, r1, r2]) rfl ⟨rfl, grew_set3 HG3.out (by omega) _ _ _⟩
  · obtain ⟨rfl, rfl⟩ : zV = r ∧ f0 = rf := by
      have e : sidesP x.op (y0, f0) (y1, f1) = (zV, f0) := by simp [sidesP, hf0]
      have := HS.out
      rw [e] at this
      simpa using this
    clear HS HD H1
    have e1 : (f0 != 0) = true := by rw [bne_iff_ne]; exact hf0
    clear hf0
    go_wp2_with (first
      | (go_at_call 88; (with_reducible refine (H0.out _ HG0.out).grows.mono ?_); rintro e w1 ⟨rfl, hg1⟩; have HG1 : Hid (Grew w w1) := Lib.hid (HG0.out.trans hg1); have HB1 := Lib.hid (HB0.out.grew hg1); clear hg1; have HG3 := Lib.hid (HG1.out.alloc (.cells #[.int .i64 y0.k, .int .i64 y0.i, .string y0.s] 23)); have HB3 := Lib.hid (HB1.out.alloc (.cells #[.int .i64 y0.k, .int .i64 y0.i, .string y0.s] 23)); obtain ⟨p2, c0, c1, c2, d0, d1, d2⟩ := val_in HB3.out))
    have hb := val_set HB3.out (.int .i64 0) (.int .i64 0) (.string ⟨#[]⟩)
    obtain ⟨_, r0, r1, r2, _, _, _⟩ := val_in hb
    exact bodyPost_ret (v := .tuple #[.agg #[.int .i64 0, .int .i64 0, .string ⟨#[]⟩], .int .i64 f0]) (by simp [results, Try.results87, go_sem, r0, r1, r2]) rfl ⟨rfl, grew_set3 HG3.out (by omega) _ _ _⟩
end Go.Proofs.Ytddambfniaiogaa
