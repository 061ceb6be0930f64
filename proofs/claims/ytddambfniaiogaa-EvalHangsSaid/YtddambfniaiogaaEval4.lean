/- Layer 13: the value of an expression, by the program. Condition: rows and expressions that lie in memory that is there. -/
import Derived.Test.YtddambfniaiogaaEval3
namespace Go.Proofs.Ytddambfniaiogaa
open Go.RowKit
attribute [local go_sem] more_cell more_frozen more_more more_setCell more_of_drew more_of_drewN lt_more le_more past_cell past_cell2 past_frozen past_frozen2 past_setCell past_setCell2 mid_cell mid_frozen mid_setCell
attribute [local go_sem ↓] Go.wp_at_zero Go.wp_at_succ

theorem isI_of {x : Vl} (h : VlOk x) : isI x.i := by
  have := h.2.1
  unfold isI
  simp [Lit.wf, IntKind.min, IntKind.max, IntKind.bits, IntKind.signed] at this
  omega
theorem ExOk.part {x : Ex} (h : ExOk x) {i : Nat} (hi : i < x.l.length) : ExOk x.l[i] := h.parts.2 _ (List.getElem_mem hi)
theorem size_part {x : Ex} {i : Nat} (hi : i < x.l.length) : SizeOf.sizeOf x.l[i] < SizeOf.sizeOf x := by
  cases x
  simp only [Ex.l] at hi ⊢
  have := List.sizeOf_lt_of_mem (List.getElem_mem hi)
  simp
  omega
set_option maxHeartbeats 1000000 in
set_option maxRecDepth 20000 in
theorem valE_any (env : List (List Vl)) (he : RwsOk env) (E : Option Addr) (ke : Nat) : ∀ (n : Nat) (x : Ex), SizeOf.sizeOf x ≤ n → ExOk x → ∀ (A : Option Addr) (k : Nat) (w : World), ExsR (PRow w) A x.l → RwsR (PRow w) E env →
    Gives Try.prog 18 #[exV x A k, .slice E env.length ke] w (.tuple #[vlV (evalV env x).1, .int .i64 (evalV env x).2])
  | 0, x, hn, _, _, _, _, _, _ => by cases x; simp at hn
  | n + 1, x, hn, hx, A, k, w, ra, rb => by
    have ih := valE_any env he E ke n
    obtain ⟨W0, hW0⟩ : ∃ W0, W0 = ((w.alloc (.cells (exC x A k).toArray 26)).alloc (.cells #[.slice E env.length ke] 27)).alloc (.cells #[.int .i64 0, .int .i64 0, .string ⟨#[]⟩] 23) := ⟨_, rfl⟩
    have HG0 : Hid (Grew w W0) := Lib.hid (by rw [hW0]; exact (((Grew.refl w).alloc _).alloc _).alloc _)
    have HX0 : Hid (Blok W0 w.heap.size 26 (exC x A k).toArray) := Lib.hid (by rw [hW0]; exact ((Blok.new _ _ _ _ rfl).alloc _).alloc _)
    have HE0 : Hid (Blok W0 (w.heap.size + 1) 27 #[.slice E env.length ke]) := Lib.hid (by rw [hW0]; exact (Blok.new _ _ _ _ (by simp)).alloc _)
    have HB0 : Hid (Blok W0 (w.heap.size + 1 + 1) 23 #[.int .i64 0, .int .i64 0, .string ⟨#[]⟩]) := Lib.hid (by rw [hW0]; exact Blok.new _ _ _ _ (by simp))
    have RB := Lib.hid (rb.grew HG0.out)
    have HA : Hid (∀ W, Grew W0 W → Gives Try.prog 21 #[.slice E env.length ke, .int .i64 x.t, .int .i64 x.c] W (vlV (atE env x.t x.c))) := Lib.hid fun W hW => at_any env he E ke _ _ W (RB.out.grew hW)
    have HS : Hid (7 ≤ x.op → x.op ≤ 9 → Gives Try.prog 87 #[exV x A k, .func (.func 88) #[] #[.pointer (some ⟨w.heap.size, 0, none⟩), .pointer (some ⟨w.heap.size + 1, 0, none⟩)]] W0 (.tuple #[vlV (evalV env x).1, .int .i64 (evalV env x).2])) := Lib.hid fun h7 h9 => by
      by_cases hl : x.l.length = 2
      · rw [evalV_two h7 h9 hl]
        have hp : ∀ (i : Nat) (hi : i < x.l.length), ∀ W, Grew W0 W → Gives Try.prog 88 #[.int .i64 i, .pointer (some ⟨w.heap.size, 0, none⟩), .pointer (some ⟨w.heap.size + 1, 0, none⟩)] W (.tuple #[vlV (evalV env x.l[i]).1, .int .i64 (evalV env x.l[i]).2]) := fun i hi W hW =>
          valc_any x A k env E ke _ _ i hi W _ _ (HX0.out.grew hW) (HE0.out.grew hW) (ra.grew (HG0.out.trans hW)) fun B j W' hp hg => ih _ (by
            have := size_part hi
            omega) (hx.part hi) B j W' (hp.grew hg) (rb.grew (HG0.out.trans (hW.trans hg)))
        exact sides_two x A k _ _ W0 hl _ _ _ _ (isI_of (evalV_ok he (hx.part _))) (isI_of (evalV_ok he (hx.part _))) (hp 0 (by omega)) (hp 1 (by omega))
      · rw [evalV_not h7 h9 hl]
        exact sides_not x A k _ _ W0 hl
    clear ih ra rb RB
    obtain ⟨q0, s0, s1, s2, s3, s4, s5, s6, s7, s8⟩ := blok9 HX0.out
    have tl := HE0.out.lt
    have t0 : W0.cell? ⟨w.heap.size + 1, 0, none⟩ = some (.slice E env.length ke) := by simpa using HE0.out.cell 0
    obtain ⟨p2, c0, c1, c2, d0, d1, d2⟩ := val_in HB0.out
    have hc := hx
    clear HX0 HE0 hx hn
    by_cases h15 : x.op = 15
    · rw [evalV_col h15]
      have e15 : (x.op == 15) = true := by rw [beq_iff_eq]; exact h15
      clear h15 HS
      unfold exV vlV at *
      unfold Gives
      unfold exC at hW0
      generalize atE env x.t x.c = y at *
      generalize x.l.length = m at *
      generalize env.length = el at *
      go_enter Try.func18, Try.ntmps18
      go_upto_region 2 with fail
      rw [← hW0]
      clear hW0
      go_wp2_with (first
        | (go_at_call 21; (with_reducible refine (HA.out _ (Grew.refl _)).grows.mono ?_); rintro e w4 ⟨rfl, hg4⟩; have HG4 : Hid (Grew w w4) := Lib.hid (HG0.out.trans hg4); have HB4 := Lib.hid (HB0.out.grew hg4); clear hg4; obtain ⟨p3, l0, l1, l2, m0, m1, m2⟩ := val_in HB4.out))
      have hb := val_set HB4.out (.int .i64 y.k) (.int .i64 y.i) (.string y.s)
      obtain ⟨_, r0, r1, r2, _, _, _⟩ := val_in hb
      exact bodyPost_ret (v := .tuple #[.agg #[.int .i64 y.k, .int .i64 y.i, .string y.s], .int .i64 0]) (by simp [results, Try.results18, go_sem, r0, r1, r2]) rfl ⟨rfl, grew_set3 HG4.out (by omega) _ _ _⟩
    · have e15 : (x.op == 15) = false := by rw [beq_eq_false_iff_ne]; exact h15
      clear HA
      by_cases h16 : x.op = 16
      · rw [evalV_val h16]
        have e16 : (x.op == 16) = true := by rw [beq_iff_eq]; exact h16
        clear h15 h16 HS
        unfold Gives exV vlV
        unfold exC at hW0
        generalize x.l.length = m at *
        generalize env.length = el at *
        go_enter Try.func18, Try.ntmps18
        go_upto_region 2 with fail
        rw [← hW0]
        clear hW0
        go_wp2
        have hb := val_set HB0.out (.int .i64 x.vk) (.int .i64 x.vi) (.string x.vs)
        obtain ⟨_, r0, r1, r2, _, _, _⟩ := val_in hb
        exact bodyPost_ret (v := .tuple #[.agg #[.int .i64 x.vk, .int .i64 x.vi, .string x.vs], .int .i64 0]) (by simp [results, Try.results18, go_sem, r0, r1, r2]) rfl ⟨rfl, grew_set3 HG0.out (by omega) _ _ _⟩
      · have e16 : (x.op == 16) = false := by rw [beq_eq_false_iff_ne]; exact h16
        by_cases ho : 7 ≤ x.op ∧ x.op ≤ 9
        · obtain ⟨h7, h9⟩ := ho
          have HS := Lib.hid (HS.out h7 h9)
          have HO : Hid (x.op = 7 ∨ x.op = 8 ∨ x.op = 9) := Lib.hid (by omega)
          clear h15 h16 h7 h9
          unfold exV vlV at *
          unfold Gives
          unfold exC at hW0
          generalize evalV env x = r at *
          obtain ⟨y, f⟩ := r
          simp only at HS ⊢
          generalize x.l.length = m at *
          generalize env.length = el at *
          go_enter Try.func18, Try.ntmps18
          go_upto_region 2 with fail
          rw [← hW0]
          clear hW0
          rcases HO.out with h | h | h
          · have e7 : (x.op == 7) = true := by rw [h]; rfl
            clear h HO
            go_wp2_with (first
              | (go_at_call 87; (with_reducible refine (HS.out).grows.mono ?_); rintro e w4 ⟨rfl, hg4⟩; have HG4 : Hid (Grew w w4) := Lib.hid (HG0.out.trans hg4); have HB4 := Lib.hid (HB0.out.grew hg4); clear hg4; obtain ⟨p3, l0, l1, l2, m0, m1, m2⟩ := val_in HB4.out))
            have hb := val_set HB4.out (.int .i64 y.k) (.int .i64 y.i) (.string y.s)
            obtain ⟨_, r0, r1, r2, _, _, _⟩ := val_in hb
            exact bodyPost_ret (v := .tuple #[.agg #[.int .i64 y.k, .int .i64 y.i, .string y.s], .int .i64 f]) (by simp [results, Try.results18, go_sem, r0, r1, r2]) rfl ⟨rfl, grew_set3 HG4.out (by omega) _ _ _⟩
          · have e7 : (x.op == 7) = false := by rw [h]; rfl
            have e8 : (x.op == 8) = true := by rw [h]; rfl
            clear h HO
            go_wp2_with (first
              | (go_at_call 87; (with_reducible refine (HS.out).grows.mono ?_); rintro e w4 ⟨rfl, hg4⟩; have HG4 : Hid (Grew w w4) := Lib.hid (HG0.out.trans hg4); have HB4 := Lib.hid (HB0.out.grew hg4); clear hg4; obtain ⟨p3, l0, l1, l2, m0, m1, m2⟩ := val_in HB4.out))
            have hb := val_set HB4.out (.int .i64 y.k) (.int .i64 y.i) (.string y.s)
            obtain ⟨_, r0, r1, r2, _, _, _⟩ := val_in hb
            exact bodyPost_ret (v := .tuple #[.agg #[.int .i64 y.k, .int .i64 y.i, .string y.s], .int .i64 f]) (by simp [results, Try.results18, go_sem, r0, r1, r2]) rfl ⟨rfl, grew_set3 HG4.out (by omega) _ _ _⟩
          · have e7 : (x.op == 7) = false := by rw [h]; rfl
            have e8 : (x.op == 8) = false := by rw [h]; rfl
            have e9 : (x.op == 9) = true := by rw [h]; rfl
            clear h HO
            go_wp2_with (first
              | (go_at_call 87; (with_reducible refine (HS.out).grows.mono ?_); rintro e w4 ⟨rfl, hg4⟩; have HG4 : Hid (Grew w w4) := Lib.hid (HG0.out.trans hg4); have HB4 := Lib.hid (HB0.out.grew hg4); clear hg4; obtain ⟨p3, l0, l1, l2, m0, m1, m2⟩ := val_in HB4.out))
            have hb := val_set HB4.out (.int .i64 y.k) (.int .i64 y.i) (.string y.s)
            obtain ⟨_, r0, r1, r2, _, _, _⟩ := val_in hb
            exact bodyPost_ret (v := .tuple #[.agg #[.int .i64 y.k, .int .i64 y.i, .string y.s], .int .i64 f]) (by simp [results, Try.results18, go_sem, r0, r1, r2]) rfl ⟨rfl, grew_set3 HG4.out (by omega) _ _ _⟩
        · rw [evalV_other h15 h16 (by omega)]
          have e7 : (x.op == 7) = false := by rw [beq_eq_false_iff_ne]; omega
          have e8 : (x.op == 8) = false := by rw [beq_eq_false_iff_ne]; omega
          have e9 : (x.op == 9) = false := by rw [beq_eq_false_iff_ne]; omega
          clear h15 h16 ho HS
          unfold Gives exV vlV
          unfold exC at hW0
          generalize x.l.length = m at *
          generalize env.length = el at *
          go_enter Try.func18, Try.ntmps18
          go_upto_region 2 with fail
          rw [← hW0]
          clear hW0
          go_wp2
          have hb := val_set HB0.out (.int .i64 0) (.int .i64 0) (.string ⟨#[]⟩)
          obtain ⟨_, r0, r1, r2, _, _, _⟩ := val_in hb
          exact bodyPost_ret (v := .tuple #[.agg #[.int .i64 0, .int .i64 0, .string ⟨#[]⟩], .int .i64 3]) (by simp [results, Try.results18, go_sem, r0, r1, r2]) rfl ⟨rfl, grew_set3 HG0.out (by omega) _ _ _⟩
end Go.Proofs.Ytddambfniaiogaa
