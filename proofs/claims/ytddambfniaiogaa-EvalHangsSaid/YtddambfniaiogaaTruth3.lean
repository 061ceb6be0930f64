/- Layer 13: what is true, by the document. Condition: rows and expressions that lie in memory that is there. -/
import Derived.Test.YtddambfniaiogaaTruthMath
import Derived.Test.YtddambfniaiogaaEval5
namespace Go.Proofs.Ytddambfniaiogaa
open Go.RowKit
attribute [local go_sem] more_cell more_frozen more_more more_setCell more_of_drew more_of_drewN lt_more le_more past_cell past_cell2 past_frozen past_frozen2 past_setCell past_setCell2 mid_cell mid_frozen mid_setCell
attribute [local go_sem ↓] Go.wp_at_zero Go.wp_at_succ

def exA (x : Ex) (A : Option Addr) (k : Nat) : Array Value := #[.int .i64 x.op, .string x.tab, .string x.name, .int .i64 x.t, .int .i64 x.c, .int .i64 x.vk, .int .i64 x.vi, .string x.vs, .slice A x.l.length k]
set_option maxHeartbeats 6000000 in
set_option maxRecDepth 20000 in
theorem rtruthE_any (env : List (List Vl)) (he : RwsOk env) (E : Option Addr) (ke : Nat) : ∀ (n : Nat) (x : Ex), SizeOf.sizeOf x ≤ n → ExOk x → ∀ (A : Option Addr) (k : Nat) (w : World), ExsR (PRow w) A x.l → RwsR (PRow w) E env →
    Gives Try.prog 24 #[exV x A k, .slice E env.length ke] w (.int .i64 (evalT env x))
  | 0, x, hn, _, _, _, _, _, _ => by cases x; simp at hn
  | n + 1, x, hn, hx, A, k, w, ra, rb => by
    have ih := rtruthE_any env he E ke n
    obtain ⟨W0, hW0⟩ : ∃ W0, W0 = w.alloc (.cells (exC x A k).toArray 26) := ⟨_, rfl⟩
    have HG0 : Hid (Grew w W0) := Lib.hid (by rw [hW0]; exact (Grew.refl w).alloc _)
    have HX0 : Hid (Blok W0 w.heap.size 26 (exC x A k).toArray) := Lib.hid (by rw [hW0]; exact Blok.new _ _ _ _ rfl)
    have HArg : Hid (∀ W, Gives Try.prog 91 #[.int .i64 x.op] W (.int .i64 (argsI x.op))) := Lib.hid fun W => rargs_ex x.op W
    have HPV : ∀ (i : Nat) (hi : i < x.l.length) (B : Option Addr) (j : Nat), ExsR (PRow w) B x.l[i].l → ∀ W, Grew W0 W → Gives Try.prog 19 #[exV x.l[i] B j, .slice E env.length ke] W (.tuple #[vlV (evalV env x.l[i]).1, .int .i64 (evalV env x.l[i]).2]) := fun i hi B j hp W hW =>
      rvalE_any env he E ke _ _ (Nat.le_refl _) (hx.part hi) B j W (hp.grew (HG0.out.trans hW)) (rb.grew (HG0.out.trans hW))
    have HPT : ∀ (i : Nat) (hi : i < x.l.length) (B : Option Addr) (j : Nat), ExsR (PRow w) B x.l[i].l → ∀ W, Grew W0 W → Gives Try.prog 24 #[exV x.l[i] B j, .slice E env.length ke] W (.int .i64 (evalT env x.l[i])) := fun i hi B j hp W hW =>
      ih _ (by
        have := size_part hi
        omega) (hx.part hi) B j W (hp.grew (HG0.out.trans hW)) (rb.grew (HG0.out.trans hW))
    clear ih
    obtain ⟨q0, s0, s1, s2, s3, s4, s5, s6, s7, s8⟩ := blok9 HX0.out
    by_cases hargs : (x.l.length : Int) = argsI x.op
    · have e0 : ((x.l.length : Int) != argsI x.op) = false := by rw [bne_eq_false_iff_eq]; exact hargs
      by_cases h2 : x.l.length = 2
      · have h11 : 1 ≤ x.op ∧ x.op ≤ 11 := by
          unfold argsI at hargs
          split at hargs
          · assumption
          · split at hargs <;> omega
        have el := evalT_two (env := env) h2
        obtain ⟨ba, oa, PA, ka, hAA, hpa, h9a⟩ := exsR_nine ra (i := 0) (by omega)
        obtain ⟨bb, ob, PB, kb, hBB, hpb, h9b⟩ := exsR_nine ra (i := 1) (by omega)
        subst hAA
        obtain ⟨rfl, rfl⟩ : ba = bb ∧ oa = ob := by simpa using hBB
        have HV0 := Lib.hid (HPV 0 (by omega) PA ka hpa)
        have HV1 := Lib.hid (HPV 1 (by omega) PB kb hpb)
        have HT0 := Lib.hid (HPT 0 (by omega) PA ka hpa)
        have HT1 := Lib.hid (HPT 1 (by omega) PB kb hpb)
        have hs0 := (evalV_ok he (hx.part (i := 0) (by omega))).2.2
        have T0 : At9 W0 ba oa (x.l[0]'(by omega)) PA ka := by simpa only [Nat.zero_mul, Nat.add_zero] using h9a.grew HG0.out
        have T1 : At9 W0 ba (oa + 9) (x.l[1]'(by omega)) PB kb := by simpa only [Nat.one_mul] using h9b.grew HG0.out
        clear HPV HPT hpa hpb hBB h9a h9b ra rb hx hn
        generalize x.l[0]'(by omega) = x0 at *
        generalize x.l[1]'(by omega) = x1 at *
        generalize evalV env x0 = y0 at *
        generalize evalV env x1 = y1 at *
        generalize evalT env x0 = r0 at *
        generalize evalT env x1 = r1 at *
        obtain ⟨y0, f0⟩ := y0
        obtain ⟨y1, f1⟩ := y1
        simp only at HV0 HV1 hs0
        have HX : Hid (∀ w, Gives Try.prog 92 #[.int .i64 x.op, .agg #[.int .i64 y0.k, .int .i64 y0.i, .string y0.s], .agg #[.int .i64 y1.k, .int .i64 y1.i, .string y1.s]] w (.int .i64 (testT x.op (cmpB y0.k y1.k) (cmpN y0.k y0.i y0.s y1.k y1.i y1.s)))) := Lib.hid fun w => rtest_any _ _ _ _ _ _ _ (Nat.le_trans hs0 (by decide)) w
        rw [el]
        clear el hs0
        rw [h2] at s8 e0
        unfold exV vlV at *
        unfold Gives
        unfold exC at hW0
        rw [h2] at hW0 ⊢
        have hl2 := h2
        clear h2 hargs
        have HTT0 := Lib.hid T0
        have HTT1 := Lib.hid T1
        clear T0 T1
        have HO : Hid (((decide (1 ≤ x.op) = true ∧ decide (x.op ≤ 6) = true) ∧ (1 ≤ x.op ∧ x.op ≤ 6)) ∨ (decide (1 ≤ x.op) = true ∧ decide (x.op ≤ 6) = false ∧ (x.op == 10) = true ∧ x.op = 10) ∨ (decide (1 ≤ x.op) = true ∧ decide (x.op ≤ 6) = false ∧ (x.op == 10) = false ∧ (x.op == 11) = true ∧ x.op = 11) ∨ (decide (1 ≤ x.op) = true ∧ decide (x.op ≤ 6) = false ∧ (x.op == 10) = false ∧ (x.op == 11) = false ∧ (x.op == 12) = false ∧ (x.op == 13) = false ∧ (x.op == 14) = false ∧ (¬ x.op = 10 ∧ ¬ x.op = 11 ∧ ¬ (1 ≤ x.op ∧ x.op ≤ 6)))) := Lib.hid (by simp only [beq_iff_eq, beq_eq_false_iff_ne, decide_eq_true_eq, decide_eq_false_iff_not]; omega)
        clear h11
        obtain ⟨r, hr⟩ : ∃ r, twoT x.op (y0, f0) (y1, f1) r0 r1 = r := ⟨_, rfl⟩
        rw [hr]
        have HR := Lib.hid hr
        clear hr
        generalize env.length = el at *
        generalize argsI x.op = ax at *
        go_enter Try.func24, Try.ntmps24
        go_upto_region 1 with fail
        rw [← hW0]
        clear hW0
        refine wp_region_more (by kernel_rfl) (by kernel_rfl) ?_
        repeat (go_big_quiet_step (((first | (go_at_call 91; exact (HArg.out _).within)))))
        refine wpQuiet_nil ?_
        rintro _ ⟨z, rfl⟩
        have HGA := Lib.hid ((Grew.refl W0).more z)
        clear q0 s0 s1 s2 s3 s4 s5 s6 s7 s8
        generalize more W0 z = W1 at *
        have HX1 := Lib.hid (HX0.out.grew HGA.out)
        have HA1 := Lib.hid (HTT0.out.grew HGA.out)
        have HB1 := Lib.hid (HTT1.out.grew HGA.out)
        have HG1 := Lib.hid (HG0.out.trans HGA.out)
        clear HX0 HTT0 HTT1 HG0
        obtain ⟨q0, s0, s1, s2, s3, s4, s5, s6, s7, s8⟩ := blok9 HX1.out
        rw [hl2] at s8
        rcases HO.out with ⟨⟨o1, o2⟩, o3⟩ | ⟨o1, o2, o3, o4⟩ | ⟨o1, o2, o3, o4, o5⟩ | ⟨o1, o2, o3, o4, o5, o6, o7, o8⟩
        · have HP : Hid (testP x.op (y0, f0) (y1, f1) = r) := Lib.hid (by
            have := HR.out
            unfold twoT at this
            rw [if_neg (by omega), if_neg (by omega), if_pos o3] at this
            exact this)
          clear HO HR o3 HT0 HT1
          obtain ⟨t0, a0, a1, a2, a3, a4, a5, a6, a7, a8⟩ := HA1.out
          go_upto_region 5 with (first
            | (go_at_call 19; (with_reducible refine (HV0.out _ HGA.out).grows.mono ?_); rintro e w1 ⟨rfl, hg1⟩; have HGX : Hid (Grew W1 w1) := Lib.hid hg1; clear hg1))
          have HGY := Lib.hid (HGX.out.alloc (.cells #[.int .i64 y0.k, .int .i64 y0.i, .string y0.s] 23))
          have HY2 := Lib.hid (Blok.new w1 23 #[.int .i64 y0.k, .int .i64 y0.i, .string y0.s] w1.heap.size rfl)
          generalize w1.alloc (.cells #[.int .i64 y0.k, .int .i64 y0.i, .string y0.s] 23) = w2 at *
          have HX2 := Lib.hid (HX1.out.grew HGY.out)
          have HB2 := Lib.hid (HB1.out.grew HGY.out)
          have HG2 := Lib.hid (HG1.out.trans HGY.out)
          have HGB := Lib.hid (HGA.out.trans HGY.out)
          clear q0 s0 s1 s2 s3 s4 s5 s6 s7 s8 t0 a0 a1 a2 a3 a4 a5 a6 a7 a8 HX1 HB1 HA1 HG1 HGX HGY HGA
          obtain ⟨q0, s0, s1, s2, s3, s4, s5, s6, s7, s8⟩ := blok9 HX2.out
          obtain ⟨t1, b0, b1, b2, b3, b4, b5, b6, b7, b8⟩ := HB2.out
          rw [hl2] at s8
          go_upto_region 6 with (first
            | (go_at_call 19; (with_reducible refine (HV1.out _ HGB.out).grows.mono ?_); rintro e w3 ⟨rfl, hg3⟩; have HGZ := Lib.hid hg3; clear hg3))
          have HGZ4 := Lib.hid (HGZ.out.alloc (.cells #[.int .i64 y1.k, .int .i64 y1.i, .string y1.s] 23))
          have HZ4 := Lib.hid (Blok.new w3 23 #[.int .i64 y1.k, .int .i64 y1.i, .string y1.s] w3.heap.size rfl)
          generalize w3.alloc (.cells #[.int .i64 y1.k, .int .i64 y1.i, .string y1.s] 23) = w4 at *
          have HG4 := Lib.hid (HG2.out.trans HGZ4.out)
          have HX4 := Lib.hid (HX2.out.grew HGZ4.out)
          have HY4 := Lib.hid (HY2.out.grew HGZ4.out)
          clear q0 s0 s1 s2 s3 s4 s5 s6 s7 s8 t1 b0 b1 b2 b3 b4 b5 b6 b7 b8 HX2 HY2 HV0 HV1 HG2 HGZ HGZ4 HB2 HGB
          by_cases hf0 : f0 = 0
          · by_cases hf1 : f1 = 0
            · have hd : testT x.op (cmpB y0.k y1.k) (cmpN y0.k y0.i y0.s y1.k y1.i y1.s) = r := (if_pos ⟨hf0, hf1⟩ : testP x.op (y0, f0) (y1, f1) = _).symm.trans HP.out
              simp only [hd] at HX
              clear hd HP
              subst hf0 hf1
              obtain ⟨q0, s0, s1, s2, s3, s4, s5, s6, s7, s8⟩ := blok9 HX4.out
              obtain ⟨y0', a0, a1, a2, _, _, _⟩ := val_in HY4.out
              obtain ⟨z0', b0, b1, b2, _, _, _⟩ := val_in HZ4.out
              go_wp2_with (first
                | (go_at_call 92; (with_reducible refine (HX.out _).grows.mono ?_); rintro e w5 ⟨rfl, hg5⟩; have HG5 : Hid (Grew w w5) := Lib.hid (HG4.out.trans hg5); clear hg5))
              go_ret
              exact ⟨rfl, HG5.out⟩
            · obtain rfl : 2 = r := (if_neg (fun h => hf1 h.2) : testP x.op (y0, f0) (y1, f1) = 2).symm.trans HP.out
              have e1 : (f1 != 0) = true := by rw [bne_iff_ne]; exact hf1
              clear hf1 HX HP
              subst hf0
              go_wp2
              go_ret
              exact ⟨rfl, HG4.out⟩
          · obtain rfl : 2 = r := (if_neg (fun h => hf0 h.1) : testP x.op (y0, f0) (y1, f1) = 2).symm.trans HP.out
            have e1 : (f0 != 0) = true := by rw [bne_iff_ne]; exact hf0
            clear hf0 HX HP
            go_wp2
            go_ret
            exact ⟨rfl, HG4.out⟩
        · obtain rfl : andT r0 r1 = r := by
            have := HR.out
            unfold twoT at this
            rw [if_pos o4] at this
            exact this
          clear HO HR HV0 HV1 HX o4
          obtain ⟨t0, a0, a1, a2, a3, a4, a5, a6, a7, a8⟩ := HA1.out
          obtain ⟨t1, b0, b1, b2, b3, b4, b5, b6, b7, b8⟩ := HB1.out
          have HTa : Hid (∀ z, Gives Try.prog 24 #[.agg #[.int .i64 x0.op, .string x0.tab, .string x0.name, .int .i64 x0.t, .int .i64 x0.c, .int .i64 x0.vk, .int .i64 x0.vi, .string x0.vs, .slice PA x0.l.length ka], .slice E el ke] (more W1 z) (.int .i64 r0)) := Lib.hid fun z => HT0.out _ (HGA.out.more z)
          have HTb : Hid (∀ z, Gives Try.prog 24 #[.agg #[.int .i64 x1.op, .string x1.tab, .string x1.name, .int .i64 x1.t, .int .i64 x1.c, .int .i64 x1.vk, .int .i64 x1.vi, .string x1.vs, .slice PB x1.l.length kb], .slice E el ke] (more W1 z) (.int .i64 r1)) := Lib.hid fun z => HT1.out _ (HGA.out.more z)
          clear HT0 HT1
          go_upto_region 10 with fail
          refine wp_region_more (by kernel_rfl) (by kernel_rfl) ?_
          repeat (go_big_quiet_step (((first | (go_at_call 24; with_reducible exact (HTa.out _).within) | (go_at_call 24; with_reducible exact (HTb.out _).within) | (go_at_call 93; with_reducible exact (both_any _ _ _).within)))))
          refine wpQuiet_nil ?_
          rintro _ ⟨z, rfl⟩
          go_wp2
          go_ret
          exact ⟨rfl, HG1.out.more _⟩
        · obtain rfl : orT r0 r1 = r := by
            have := HR.out
            unfold twoT at this
            rw [if_neg (by omega), if_pos o5] at this
            exact this
          clear HO HR HV0 HV1 HX o5
          obtain ⟨t0, a0, a1, a2, a3, a4, a5, a6, a7, a8⟩ := HA1.out
          obtain ⟨t1, b0, b1, b2, b3, b4, b5, b6, b7, b8⟩ := HB1.out
          have HTa : Hid (∀ z, Gives Try.prog 24 #[.agg #[.int .i64 x0.op, .string x0.tab, .string x0.name, .int .i64 x0.t, .int .i64 x0.c, .int .i64 x0.vk, .int .i64 x0.vi, .string x0.vs, .slice PA x0.l.length ka], .slice E el ke] (more W1 z) (.int .i64 r0)) := Lib.hid fun z => HT0.out _ (HGA.out.more z)
          have HTb : Hid (∀ z, Gives Try.prog 24 #[.agg #[.int .i64 x1.op, .string x1.tab, .string x1.name, .int .i64 x1.t, .int .i64 x1.c, .int .i64 x1.vk, .int .i64 x1.vi, .string x1.vs, .slice PB x1.l.length kb], .slice E el ke] (more W1 z) (.int .i64 r1)) := Lib.hid fun z => HT1.out _ (HGA.out.more z)
          clear HT0 HT1
          go_upto_region 12 with fail
          refine wp_region_more (by kernel_rfl) (by kernel_rfl) ?_
          repeat (go_big_quiet_step (((first | (go_at_call 24; with_reducible exact (HTa.out _).within) | (go_at_call 24; with_reducible exact (HTb.out _).within) | (go_at_call 94; with_reducible exact (either_any _ _ _).within)))))
          refine wpQuiet_nil ?_
          rintro _ ⟨z, rfl⟩
          go_wp2
          go_ret
          exact ⟨rfl, HG1.out.more _⟩
        · obtain rfl : 2 = r := by
            have := HR.out
            unfold twoT at this
            rw [if_neg o8.1, if_neg o8.2.1, if_neg o8.2.2] at this
            exact this
          clear HO HR HV0 HV1 HT0 HT1 HX o8
          go_wp2
          go_ret
          exact ⟨rfl, HG1.out⟩
      · by_cases h1 : x.l.length = 1
        · have hop : 12 ≤ x.op := by
            unfold argsI at hargs
            split at hargs
            · omega
            · split at hargs <;> omega
          have el := evalT_one (env := env) h1
          obtain ⟨ba, oa, PA, ka, rfl, hpa, h9a⟩ := exsR_nine ra (i := 0) (by omega)
          have HV0 := Lib.hid (HPV 0 (by omega) PA ka hpa)
          have HT0 := Lib.hid (HPT 0 (by omega) PA ka hpa)
          have T0 : At9 W0 ba oa (x.l[0]'(by omega)) PA ka := by simpa only [Nat.zero_mul, Nat.add_zero] using h9a.grew HG0.out
          clear HPV HPT hpa h9a ra rb hx hn
          generalize x.l[0]'(by omega) = x0 at *
          generalize evalV env x0 = y0 at *
          generalize evalT env x0 = r0 at *
          obtain ⟨y0, f0⟩ := y0
          simp only at HV0
          rw [el]
          clear el
          rw [h1] at s8 e0
          unfold exV vlV at *
          unfold Gives
          unfold exC at hW0
          rw [h1] at hW0 ⊢
          have hl2 := h1
          have HTT0 := Lib.hid T0
          clear h1 h2 hargs T0
          have HO : Hid ((decide (1 ≤ x.op) = true ∧ decide (x.op ≤ 6) = false ∧ (x.op == 10) = false ∧ (x.op == 11) = false ∧ (x.op == 12) = true ∧ x.op = 12) ∨ (decide (1 ≤ x.op) = true ∧ decide (x.op ≤ 6) = false ∧ (x.op == 10) = false ∧ (x.op == 11) = false ∧ (x.op == 12) = false ∧ (x.op == 13) = true ∧ (x.op == 14) = false ∧ x.op = 13) ∨ (decide (1 ≤ x.op) = true ∧ decide (x.op ≤ 6) = false ∧ (x.op == 10) = false ∧ (x.op == 11) = false ∧ (x.op == 12) = false ∧ (x.op == 13) = false ∧ (x.op == 14) = true ∧ x.op = 14) ∨ (decide (1 ≤ x.op) = true ∧ decide (x.op ≤ 6) = false ∧ (x.op == 10) = false ∧ (x.op == 11) = false ∧ (x.op == 12) = false ∧ (x.op == 13) = false ∧ (x.op == 14) = false ∧ (¬ x.op = 12 ∧ ¬ x.op = 13 ∧ ¬ x.op = 14))) := Lib.hid (by simp only [beq_iff_eq, beq_eq_false_iff_ne, decide_eq_true_eq, decide_eq_false_iff_not]; omega)
          clear hop
          obtain ⟨r, hr⟩ : ∃ r, oneT x.op (y0, f0) r0 = r := ⟨_, rfl⟩
          rw [hr]
          have HR := Lib.hid hr
          clear hr
          generalize env.length = el at *
          generalize argsI x.op = ax at *
          go_enter Try.func24, Try.ntmps24
          go_upto_region 1 with fail
          rw [← hW0]
          clear hW0
          refine wp_region_more (by kernel_rfl) (by kernel_rfl) ?_
          repeat (go_big_quiet_step (((first | (go_at_call 91; exact (HArg.out _).within)))))
          refine wpQuiet_nil ?_
          rintro _ ⟨z, rfl⟩
          have HGA := Lib.hid ((Grew.refl W0).more z)
          clear q0 s0 s1 s2 s3 s4 s5 s6 s7 s8
          generalize more W0 z = W1 at *
          have HX1 := Lib.hid (HX0.out.grew HGA.out)
          have HA1 := Lib.hid (HTT0.out.grew HGA.out)
          have HG1 := Lib.hid (HG0.out.trans HGA.out)
          clear HX0 HTT0 HG0
          obtain ⟨q0, s0, s1, s2, s3, s4, s5, s6, s7, s8⟩ := blok9 HX1.out
          obtain ⟨t0, a0, a1, a2, a3, a4, a5, a6, a7, a8⟩ := HA1.out
          rw [hl2] at s8
          rcases HO.out with ⟨o1, o2, o3, o4, o5, o6⟩ | ⟨o1, o2, o3, o4, o5, o6, o7, o8⟩ | ⟨o1, o2, o3, o4, o5, o6, o7, o8⟩ | ⟨o1, o2, o3, o4, o5, o6, o7, o8⟩
          · obtain rfl : notT r0 = r := by
              have := HR.out
              unfold oneT at this
              rw [if_pos o6] at this
              exact this
            clear HO HR HV0 o6
            go_wp2_with (first
              | (go_at_call 24; (with_reducible refine (HT0.out _ HGA.out).grows.mono ?_); rintro e w1 ⟨rfl, hg1⟩; have HG2 : Hid (Grew w w1) := Lib.hid (HG1.out.trans hg1); clear hg1)
              | (go_at_call 95; (with_reducible refine (rnot_any _ _).grows.mono ?_); rintro e w2 ⟨rfl, hg2⟩; have HG3 : Hid (Grew w w2) := Lib.hid (HG2.out.trans hg2); clear hg2))
            go_ret
            exact ⟨rfl, HG3.out⟩
          · have HP : Hid (ofT (nullP (y0, f0)) = r) := Lib.hid (by
              have := HR.out
              unfold oneT at this
              rw [if_neg (by omega), if_pos o8] at this
              exact this)
            clear HO HR o8 HT0
            go_upto_region 17 with (first
              | (go_at_call 19; (with_reducible refine (HV0.out _ HGA.out).grows.mono ?_); rintro e w1 ⟨rfl, hg1⟩; have HGX : Hid (Grew W1 w1) := Lib.hid hg1; clear hg1))
            have HGY := Lib.hid (HGX.out.alloc (.cells #[.int .i64 y0.k, .int .i64 y0.i, .string y0.s] 23))
            have HY2 := Lib.hid (Blok.new w1 23 #[.int .i64 y0.k, .int .i64 y0.i, .string y0.s] w1.heap.size rfl)
            generalize w1.alloc (.cells #[.int .i64 y0.k, .int .i64 y0.i, .string y0.s] 23) = w2 at *
            have HX2 := Lib.hid (HX1.out.grew HGY.out)
            have HG2 := Lib.hid (HG1.out.trans HGY.out)
            clear q0 s0 s1 s2 s3 s4 s5 s6 s7 s8 t0 a0 a1 a2 a3 a4 a5 a6 a7 a8 HX1 HA1 HG1 HGX HGY HGA HV0
            obtain ⟨q0, s0, s1, s2, s3, s4, s5, s6, s7, s8⟩ := blok9 HX2.out
            obtain ⟨y0', a0, a1, a2, _, _, _⟩ := val_in HY2.out
            by_cases hf : f0 = 0
            · subst hf
              by_cases hk : y0.k = 0
              · obtain rfl : 1 = r := by
                  have := HP.out
                  simpa [nullP, hk, ofT, notT] using this
                have e1 : (y0.k == 0) = true := by rw [hk]; rfl
                clear HP hk
                go_wp2
                go_ret
                exact ⟨rfl, HG2.out⟩
              · obtain rfl : 0 = r := by
                  have := HP.out
                  simpa [nullP, hk, ofT, notT] using this
                have e1 : (y0.k == 0) = false := by rw [beq_eq_false_iff_ne]; exact hk
                clear HP hk
                go_wp2
                go_ret
                exact ⟨rfl, HG2.out⟩
            · obtain rfl : 0 = r := by
                have := HP.out
                simpa [nullP, hf, ofT, notT] using this
              have e1 : (f0 == 0) = false := by rw [beq_eq_false_iff_ne]; exact hf
              clear HP hf
              go_wp2
              go_ret
              exact ⟨rfl, HG2.out⟩
          · have HP : Hid (notT (ofT (nullP (y0, f0))) = r) := Lib.hid (by
              have := HR.out
              unfold oneT at this
              rw [if_neg (by omega), if_neg (by omega), if_pos o8] at this
              exact this)
            clear HO HR o8 HT0
            go_upto_region 17 with (first
              | (go_at_call 19; (with_reducible refine (HV0.out _ HGA.out).grows.mono ?_); rintro e w1 ⟨rfl, hg1⟩; have HGX : Hid (Grew W1 w1) := Lib.hid hg1; clear hg1))
            have HGY := Lib.hid (HGX.out.alloc (.cells #[.int .i64 y0.k, .int .i64 y0.i, .string y0.s] 23))
            have HY2 := Lib.hid (Blok.new w1 23 #[.int .i64 y0.k, .int .i64 y0.i, .string y0.s] w1.heap.size rfl)
            generalize w1.alloc (.cells #[.int .i64 y0.k, .int .i64 y0.i, .string y0.s] 23) = w2 at *
            have HX2 := Lib.hid (HX1.out.grew HGY.out)
            have HG2 := Lib.hid (HG1.out.trans HGY.out)
            clear q0 s0 s1 s2 s3 s4 s5 s6 s7 s8 t0 a0 a1 a2 a3 a4 a5 a6 a7 a8 HX1 HA1 HG1 HGX HGY HGA HV0
            obtain ⟨q0, s0, s1, s2, s3, s4, s5, s6, s7, s8⟩ := blok9 HX2.out
            obtain ⟨y0', a0, a1, a2, _, _, _⟩ := val_in HY2.out
            by_cases hf : f0 = 0
            · subst hf
              by_cases hk : y0.k = 0
              · obtain rfl : 0 = r := by
                  have := HP.out
                  simpa [nullP, hk, ofT, notT] using this
                have e1 : (y0.k == 0) = true := by rw [hk]; rfl
                clear HP hk
                go_wp2
                go_ret
                exact ⟨rfl, HG2.out⟩
              · obtain rfl : 1 = r := by
                  have := HP.out
                  simpa [nullP, hk, ofT, notT] using this
                have e1 : (y0.k == 0) = false := by rw [beq_eq_false_iff_ne]; exact hk
                clear HP hk
                go_wp2
                go_ret
                exact ⟨rfl, HG2.out⟩
            · obtain rfl : 1 = r := by
                have := HP.out
                simpa [nullP, hf, ofT, notT] using this
              have e1 : (f0 == 0) = false := by rw [beq_eq_false_iff_ne]; exact hf
              clear HP hf
              go_wp2
              go_ret
              exact ⟨rfl, HG2.out⟩
          · obtain rfl : 2 = r := by
              have := HR.out
              unfold oneT at this
              rw [if_neg o8.1, if_neg o8.2.1, if_neg o8.2.2] at this
              exact this
            clear HO HR HV0 HT0 o8
            go_wp2
            go_ret
            exact ⟨rfl, HG1.out⟩
        · rw [evalT_else h1 h2]
          have HO : Hid ((decide (1 ≤ x.op) = false ∧ (x.op == 10) = false ∧ (x.op == 11) = false ∧ (x.op == 12) = false ∧ (x.op == 13) = false ∧ (x.op == 14) = false) ∨ (decide (1 ≤ x.op) = true ∧ decide (x.op ≤ 6) = false ∧ (x.op == 10) = false ∧ (x.op == 11) = false ∧ (x.op == 12) = false ∧ (x.op == 13) = false ∧ (x.op == 14) = false)) := Lib.hid (by
            simp only [beq_eq_false_iff_ne, decide_eq_true_eq, decide_eq_false_iff_not]
            unfold argsI at hargs
            split at hargs
            · omega
            · split at hargs <;> omega)
          clear HPV HPT hargs ra rb hx hn h1 h2
          unfold exV
          unfold Gives
          unfold exC at hW0
          generalize argsI x.op = ax at *
          generalize x.l.length = m at *
          generalize env.length = el at *
          go_enter Try.func24, Try.ntmps24
          go_upto_region 1 with fail
          rw [← hW0]
          clear hW0
          refine wp_region_more (by kernel_rfl) (by kernel_rfl) ?_
          repeat (go_big_quiet_step (((first | (go_at_call 91; exact (HArg.out _).within)))))
          refine wpQuiet_nil ?_
          rintro _ ⟨z, rfl⟩
          rcases HO.out with ⟨o1, o3, o4, o5, o6, o7⟩ | ⟨o1, o2, o3, o4, o5, o6, o7⟩
          all_goals
            clear HO HX0
            go_wp2
            go_ret
            exact ⟨rfl, HG0.out.more _⟩
    · rw [evalT_args hargs]
      have e0 : ((x.l.length : Int) != argsI x.op) = true := by rw [bne_iff_ne]; exact hargs
      clear HPV HPT hargs ra rb HX0 hx hn
      unfold exV
      unfold Gives
      unfold exC at hW0
      generalize argsI x.op = ax at *
      generalize x.l.length = m at *
      generalize env.length = el at *
      go_enter Try.func24, Try.ntmps24
      go_upto_region 1 with fail
      rw [← hW0]
      clear hW0
      refine wp_region_more (by kernel_rfl) (by kernel_rfl) ?_
      repeat (go_big_quiet_step (((first | (go_at_call 91; exact (HArg.out _).within)))))
      refine wpQuiet_nil ?_
      rintro _ ⟨z, rfl⟩
      go_wp2
      go_ret
      exact ⟨rfl, HG0.out.more _⟩
end Go.Proofs.Ytddambfniaiogaa
