/- Layer 13: the value of an expression, by the document. Condition: rows and expressions that lie in memory that is there. -/
import Derived.Test.YtddambfniaiogaaEval4
namespace Go.Proofs.Ytddambfniaiogaa
open Go.RowKit
attribute [local go_sem] more_cell more_frozen more_more more_setCell more_of_drew more_of_drewN lt_more le_more past_cell past_cell2 past_frozen past_frozen2 past_setCell past_setCell2 mid_cell mid_frozen mid_setCell
attribute [local go_sem ↓] Go.wp_at_zero Go.wp_at_succ

set_option maxHeartbeats 2000000 in
set_option maxRecDepth 20000 in
theorem rvalE_any (env : List (List Vl)) (he : RwsOk env) (E : Option Addr) (ke : Nat) : ∀ (n : Nat) (x : Ex), SizeOf.sizeOf x ≤ n → ExOk x → ∀ (A : Option Addr) (k : Nat) (w : World), ExsR (PRow w) A x.l → RwsR (PRow w) E env →
    Gives Try.prog 19 #[exV x A k, .slice E env.length ke] w (.tuple #[vlV (evalV env x).1, .int .i64 (evalV env x).2])
  | 0, x, hn, _, _, _, _, _, _ => by cases x; simp at hn
  | n + 1, x, hn, hx, A, k, w, ra, rb => by
    have ih := rvalE_any env he E ke n
    obtain ⟨W0, hW0⟩ : ∃ W0, W0 = (w.alloc (.cells (exC x A k).toArray 26)).alloc (.cells #[.int .i64 0, .int .i64 0, .string ⟨#[]⟩] 23) := ⟨_, rfl⟩
    have HG0 : Hid (Grew w W0) := Lib.hid (by rw [hW0]; exact ((Grew.refl w).alloc _).alloc _)
    have HX0 : Hid (Blok W0 w.heap.size 26 (exC x A k).toArray) := Lib.hid (by rw [hW0]; exact (Blok.new _ _ _ _ rfl).alloc _)
    have HB0 : Hid (Blok W0 (w.heap.size + 1) 23 #[.int .i64 0, .int .i64 0, .string ⟨#[]⟩]) := Lib.hid (by rw [hW0]; exact Blok.new _ _ _ _ (by simp))
    have RB := Lib.hid (rb.grew HG0.out)
    have HA : Hid (∀ W, Grew W0 W → Gives Try.prog 22 #[.slice E env.length ke, .int .i64 x.t, .int .i64 x.c] W (vlV (atE env x.t x.c))) := Lib.hid fun W hW => rat_any env he E ke _ _ W (RB.out.grew hW)
    obtain ⟨q0, s0, s1, s2, s3, s4, s5, s6, s7, s8⟩ := blok9 HX0.out
    obtain ⟨p2, c0, c1, c2, d0, d1, d2⟩ := val_in HB0.out
    by_cases h15 : x.op = 15
    · rw [evalV_col h15]
      have e15 : (x.op == 15) = true := by rw [beq_iff_eq]; exact h15
      clear h15 ih ra rb RB HX0 hx hn
      unfold exV vlV at *
      unfold Gives
      unfold exC at hW0
      generalize atE env x.t x.c = y at *
      generalize x.l.length = m at *
      generalize env.length = el at *
      go_enter Try.func19, Try.ntmps19
      go_upto_region 1 with fail
      rw [← hW0]
      clear hW0
      go_wp2_with (first
        | (go_at_call 22; (with_reducible refine (HA.out _ (Grew.refl _)).grows.mono ?_); rintro e w4 ⟨rfl, hg4⟩; have HG4 : Hid (Grew w w4) := Lib.hid (HG0.out.trans hg4); have HB4 := Lib.hid (HB0.out.grew hg4); clear hg4; obtain ⟨p3, l0, l1, l2, m0, m1, m2⟩ := val_in HB4.out))
      have hb := val_set HB4.out (.int .i64 y.k) (.int .i64 y.i) (.string y.s)
      obtain ⟨_, r0, r1, r2, _, _, _⟩ := val_in hb
      exact bodyPost_ret (v := .tuple #[.agg #[.int .i64 y.k, .int .i64 y.i, .string y.s], .int .i64 0]) (by simp [results, Try.results19, go_sem, r0, r1, r2]) rfl ⟨rfl, grew_set3 HG4.out (by omega) _ _ _⟩
    · have e15 : (x.op == 15) = false := by rw [beq_eq_false_iff_ne]; exact h15
      clear HA
      by_cases h16 : x.op = 16
      · rw [evalV_val h16]
        have e16 : (x.op == 16) = true := by rw [beq_iff_eq]; exact h16
        clear h15 h16 ih ra rb RB HX0 hx hn
        unfold Gives exV vlV
        unfold exC at hW0
        generalize x.l.length = m at *
        generalize env.length = el at *
        go_enter Try.func19, Try.ntmps19
        go_upto_region 1 with fail
        rw [← hW0]
        clear hW0
        go_wp2
        have hb := val_set HB0.out (.int .i64 x.vk) (.int .i64 x.vi) (.string x.vs)
        obtain ⟨_, r0, r1, r2, _, _, _⟩ := val_in hb
        exact bodyPost_ret (v := .tuple #[.agg #[.int .i64 x.vk, .int .i64 x.vi, .string x.vs], .int .i64 0]) (by simp [results, Try.results19, go_sem, r0, r1, r2]) rfl ⟨rfl, grew_set3 HG0.out (by omega) _ _ _⟩
      · have e16 : (x.op == 16) = false := by rw [beq_eq_false_iff_ne]; exact h16
        by_cases ho : 7 ≤ x.op ∧ x.op ≤ 9 ∧ x.l.length = 2
        · obtain ⟨h7, h9, hl⟩ := ho
          obtain ⟨ba, oa, PA, ka, hAA, hpa, h9a⟩ := exsR_nine ra (i := 0) (by omega)
          obtain ⟨bb, ob, PB, kb, hBB, hpb, h9b⟩ := exsR_nine ra (i := 1) (by omega)
          subst hAA
          obtain ⟨rfl, rfl⟩ : ba = bb ∧ oa = ob := by simpa using hBB
          have HV0 : Hid (∀ W, Grew W0 W → Gives Try.prog 19 #[exV (x.l[0]'(by omega)) PA ka, .slice E env.length ke] W (.tuple #[vlV (evalV env (x.l[0]'(by omega))).1, .int .i64 (evalV env (x.l[0]'(by omega))).2])) := Lib.hid fun W hW => ih _ (by
            have := size_part (x := x) (i := 0) (by omega)
            omega) (hx.part _) PA ka W (hpa.grew (HG0.out.trans hW)) (RB.out.grew hW)
          have HV1 : Hid (∀ W, Grew W0 W → Gives Try.prog 19 #[exV (x.l[1]'(by omega)) PB kb, .slice E env.length ke] W (.tuple #[vlV (evalV env (x.l[1]'(by omega))).1, .int .i64 (evalV env (x.l[1]'(by omega))).2])) := Lib.hid fun W hW => ih _ (by
            have := size_part (x := x) (i := 1) (by omega)
            omega) (hx.part _) PB kb W (hpb.grew (HG0.out.trans hW)) (RB.out.grew hW)
          have hi0 := isI_of (evalV_ok he (hx.part (i := 0) (by omega)))
          have hi1 := isI_of (evalV_ok he (hx.part (i := 1) (by omega)))
          rw [evalV_two h7 h9 hl]
          have e7 : decide (x.op < 7) = false := by rw [decide_eq_false_iff_not]; omega
          have e9 : decide (9 < x.op) = false := by rw [decide_eq_false_iff_not]; omega
          have T0 : At9 W0 ba oa (x.l[0]'(by omega)) PA ka := by simpa only [Nat.zero_mul, Nat.add_zero] using h9a.grew HG0.out
          have T1 : At9 W0 ba (oa + 9) (x.l[1]'(by omega)) PB kb := by simpa only [Nat.one_mul] using h9b.grew HG0.out
          have el : ((2 : Int) != 2) = false := rfl
          generalize x.l[0]'(by omega) = x0 at *
          generalize x.l[1]'(by omega) = x1 at *
          generalize evalV env x0 = y0 at *
          generalize evalV env x1 = y1 at *
          obtain ⟨y0, f0⟩ := y0
          obtain ⟨y1, f1⟩ := y1
          simp only at HV0 HV1 hi0 hi1
          rw [hl] at s8
          have HD : Hid (∀ w, Gives Try.prog 89 #[.int .i64 x.op, .agg #[.int .i64 y0.k, .int .i64 y0.i, .string y0.s], .agg #[.int .i64 y1.k, .int .i64 y1.i, .string y1.s]] w (.tuple #[vlV (doP x.op y0 y1).1, .int .i64 (doP x.op y0 y1).2])) := Lib.hid fun w => rdo_any _ _ _ _ _ _ _ hi0 hi1 w
          obtain ⟨⟨r, rf⟩, hr⟩ : ∃ r, sidesP x.op (y0, f0) (y1, f1) = r := ⟨_, rfl⟩
          rw [hr]
          have HS := Lib.hid hr
          unfold exV vlV at *
          unfold Gives
          unfold exC at hW0
          rw [hl] at hW0 ⊢
          have hl2 := hl
          clear hr h7 h9 h15 h16 hi0 hi1 ih ra rb hpa hpb h9a h9b hBB hn hx hl
          obtain ⟨t0, a0, a1, a2, a3, a4, a5, a6, a7, a8⟩ := T0
          have HT1 := Lib.hid T1
          clear T1
          generalize env.length = el at *
          go_enter Try.func19, Try.ntmps19
          go_upto_region 1 with fail
          rw [← hW0]
          clear hW0
          go_upto_region 7 with fail
          go_upto_region 8 with (first
            | (go_at_call 19; (with_reducible refine (HV0.out _ (Grew.refl _)).grows.mono ?_); rintro e w1 ⟨rfl, hg1⟩; have HGX : Hid (Grew W0 w1) := Lib.hid hg1; have HG1 : Hid (Grew w w1) := Lib.hid (HG0.out.trans hg1); clear hg1))
          have HGY := Lib.hid (HGX.out.alloc (.cells #[.int .i64 y0.k, .int .i64 y0.i, .string y0.s] 23))
          have HG2 := Lib.hid (HG1.out.alloc (.cells #[.int .i64 y0.k, .int .i64 y0.i, .string y0.s] 23))
          have HY2 := Lib.hid (Blok.new w1 23 #[.int .i64 y0.k, .int .i64 y0.i, .string y0.s] w1.heap.size rfl)
          generalize w1.alloc (.cells #[.int .i64 y0.k, .int .i64 y0.i, .string y0.s] 23) = w2 at *
          have HB2 := Lib.hid (HB0.out.grew HGY.out)
          have HX2 := Lib.hid (HX0.out.grew HGY.out)
          have HT2 := Lib.hid (HT1.out.grew HGY.out)
          clear q0 s0 s1 s2 s3 s4 s5 s6 s7 s8 p2 c0 c1 c2 d0 d1 d2 t0 a0 a1 a2 a3 a4 a5 a6 a7 a8 HB0 HX0 HT1 HV0 HG0 HG1 HGX
          by_cases hf0 : f0 = 0
          · subst hf0
            obtain ⟨q0, s0, s1, s2, s3, s4, s5, s6, s7, s8⟩ := blok9 HX2.out
            obtain ⟨t1, b0, b1, b2, b3, b4, b5, b6, b7, b8⟩ := HT2.out
            rw [hl2] at s8
            go_upto_region 11 with (first
              | (go_at_call 19; (with_reducible refine (HV1.out _ HGY.out).grows.mono ?_); rintro e w3 ⟨rfl, hg3⟩; have HG3 : Hid (Grew w w3) := Lib.hid (HG2.out.trans hg3); have HGZ := Lib.hid hg3; clear hg3))
            have HG4 := Lib.hid (HG3.out.alloc (.cells #[.int .i64 y1.k, .int .i64 y1.i, .string y1.s] 23))
            have HGZ4 := Lib.hid (HGZ.out.alloc (.cells #[.int .i64 y1.k, .int .i64 y1.i, .string y1.s] 23))
            have HZ4 := Lib.hid (Blok.new w3 23 #[.int .i64 y1.k, .int .i64 y1.i, .string y1.s] w3.heap.size rfl)
            generalize w3.alloc (.cells #[.int .i64 y1.k, .int .i64 y1.i, .string y1.s] 23) = w4 at *
            have HB4 := Lib.hid (HB2.out.grew HGZ4.out)
            have HX4 := Lib.hid (HX2.out.grew HGZ4.out)
            have HY4 := Lib.hid (HY2.out.grew HGZ4.out)
            clear q0 s0 s1 s2 s3 s4 s5 s6 s7 s8 t1 b0 b1 b2 b3 b4 b5 b6 b7 b8 HB2 HX2 HY2 HV1 HG2 HG3 HGZ HGZ4
            obtain ⟨p2, c0, c1, c2, d0, d1, d2⟩ := val_in HB4.out
            by_cases hf1 : f1 = 0
            · subst hf1
              obtain ⟨hd1, hd2⟩ : (doP x.op y0 y1).1 = r ∧ (doP x.op y0 y1).2 = rf := by
                have e : sidesP x.op (y0, 0) (y1, 0) = doP x.op y0 y1 := by simp [sidesP]
                have := HS.out
                rw [e] at this
                rw [this]
                exact ⟨rfl, rfl⟩
              simp only [hd1, hd2] at HD
              clear HS hd1 hd2
              obtain ⟨q0, s0, s1, s2, s3, s4, s5, s6, s7, s8⟩ := blok9 HX4.out
              obtain ⟨y0', a0, a1, a2, _, _, _⟩ := val_in HY4.out
              obtain ⟨z0', b0, b1, b2, _, _, _⟩ := val_in HZ4.out
              go_wp2_with (first
                | (go_at_call 89; (with_reducible refine (HD.out _).grows.mono ?_); rintro e w5 ⟨rfl, hg5⟩; have HG5 : Hid (Grew w w5) := Lib.hid (HG4.out.trans hg5); have HB5 := Lib.hid (HB4.out.grew hg5); clear hg5; obtain ⟨p3, l0, l1, l2, m0, m1, m2⟩ := val_in HB5.out))
              have hb := val_set HB5.out (.int .i64 r.k) (.int .i64 r.i) (.string r.s)
              obtain ⟨_, r0, r1, r2, _, _, _⟩ := val_in hb
              exact bodyPost_ret (v := .tuple #[.agg #[.int .i64 r.k, .int .i64 r.i, .string r.s], .int .i64 rf]) (by simp [results, Try.results19, go_sem, r0, r1, r2]) rfl ⟨rfl, grew_set3 HG5.out (by omega) _ _ _⟩
            · obtain ⟨rfl, rfl⟩ : zV = r ∧ f1 = rf := by
                have e : sidesP x.op (y0, 0) (y1, f1) = (zV, f1) := by simp [sidesP, hf1]
                have := HS.out
                rw [e] at this
                simpa using this
              clear HS HD
              have e1 : (f1 != 0) = true := by rw [bne_iff_ne]; exact hf1
              clear hf1
              go_wp2
              have hb := val_set HB4.out (.int .i64 0) (.int .i64 0) (.string ⟨#[]⟩)
              obtain ⟨_, r0, r1, r2, _, _, _⟩ := val_in hb
              exact bodyPost_ret (v := .tuple #[.agg #[.int .i64 0, .int .i64 0, .string ⟨#[]⟩], .int .i64 f1]) (by simp [results, Try.results19, go_sem, r0, r1, r2]) rfl ⟨rfl, grew_set3 HG4.out (by omega) _ _ _⟩
          · obtain ⟨rfl, rfl⟩ : zV = r ∧ f0 = rf := by
              have e : sidesP x.op (y0, f0) (y1, f1) = (zV, f0) := by simp [sidesP, hf0]
              have := HS.out
              rw [e] at this
              simpa using this
            clear HS HD HV1
            have e1 : (f0 != 0) = true := by rw [bne_iff_ne]; exact hf0
            clear hf0
            obtain ⟨p2, c0, c1, c2, d0, d1, d2⟩ := val_in HB2.out
            go_wp2
            have hb := val_set HB2.out (.int .i64 0) (.int .i64 0) (.string ⟨#[]⟩)
            obtain ⟨_, r0, r1, r2, _, _, _⟩ := val_in hb
            exact bodyPost_ret (v := .tuple #[.agg #[.int .i64 0, .int .i64 0, .string ⟨#[]⟩], .int .i64 f0]) (by simp [results, Try.results19, go_sem, r0, r1, r2]) rfl ⟨rfl, grew_set3 HG2.out (by omega) _ _ _⟩
        · obtain hev : evalV env x = (zV, 3) := by
            by_cases h7 : x.op < 7 ∨ 9 < x.op
            · exact evalV_other h15 h16 h7
            · exact evalV_not (by omega) (by omega) (by omega)
          rw [hev]
          clear hev ih ra rb RB HX0 hx hn
          have HW3 : Hid (x.op < 7 ∨ (decide (x.op < 7) = false ∧ 9 < x.op) ∨ decide (x.op < 7) = false ∧ decide (9 < x.op) = false ∧ ((x.l.length : Int) != 2) = true) := Lib.hid (by simp only [decide_eq_false_iff_not, bne_iff_ne]; omega)
          clear h15 h16 ho
          unfold Gives exV vlV
          unfold exC at hW0
          generalize x.l.length = m at *
          generalize env.length = el at *
          go_enter Try.func19, Try.ntmps19
          go_upto_region 1 with fail
          rw [← hW0]
          clear hW0
          rcases HW3.out with h | ⟨h, h'⟩ | ⟨h, h', h''⟩
          · clear HW3
            go_wp2
            have hb := val_set HB0.out (.int .i64 0) (.int .i64 0) (.string ⟨#[]⟩)
            obtain ⟨_, r0, r1, r2, _, _, _⟩ := val_in hb
            exact bodyPost_ret (v := .tuple #[.agg #[.int .i64 0, .int .i64 0, .string ⟨#[]⟩], .int .i64 3]) (by simp [results, Try.results19, go_sem, r0, r1, r2]) rfl ⟨rfl, grew_set3 HG0.out (by omega) _ _ _⟩
          · clear HW3
            go_wp2
            have hb := val_set HB0.out (.int .i64 0) (.int .i64 0) (.string ⟨#[]⟩)
            obtain ⟨_, r0, r1, r2, _, _, _⟩ := val_in hb
            exact bodyPost_ret (v := .tuple #[.agg #[.int .i64 0, .int .i64 0, .string ⟨#[]⟩], .int .i64 3]) (by simp [results, Try.results19, go_sem, r0, r1, r2]) rfl ⟨rfl, grew_set3 HG0.out (by omega) _ _ _⟩
          · clear HW3
            go_wp2
            have hb := val_set HB0.out (.int .i64 0) (.int .i64 0) (.string ⟨#[]⟩)
            obtain ⟨_, r0, r1, r2, _, _, _⟩ := val_in hb
            exact bodyPost_ret (v := .tuple #[.agg #[.int .i64 0, .int .i64 0, .string ⟨#[]⟩], .int .i64 3]) (by simp [results, Try.results19, go_sem, r0, r1, r2]) rfl ⟨rfl, grew_set3 HG0.out (by omega) _ _ _⟩
end Go.Proofs.Ytddambfniaiogaa
