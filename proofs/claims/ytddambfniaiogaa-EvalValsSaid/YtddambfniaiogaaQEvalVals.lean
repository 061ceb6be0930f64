/- The statement EvalValsSaid: for every input the law returns true, and each argument reads as it did. No condition beyond the row's own. -/
import Derived.Test.YtddambfniaiogaaTruth
import Derived.Test.YtddambfniaiogaaEval4
import Derived.Test.YtddambfniaiogaaTruth3
import Derived.Test.YtddambfniaiogaaEvMuch
import Derived.Test.YtddambfniaiogaaTree10
import Derived.Test.YtddambfniaiogaaFrame2

/- Layer 13: what is true, by the program. Condition: rows and expressions that lie in memory that is there. -/
namespace Go.Proofs.Ytddambfniaiogaa
open Go.RowKit
attribute [local go_sem] more_cell more_frozen more_more more_setCell more_of_drew more_of_drewN lt_more le_more past_cell past_cell2 past_frozen past_frozen2 past_setCell past_setCell2 mid_cell mid_frozen mid_setCell
attribute [local go_sem ↓] Go.wp_at_zero Go.wp_at_succ

set_option maxHeartbeats 1000000 in
/-- The closure of Truth tells the part i's value. -/
theorem truv_any (x : Ex) (A : Option Addr) (k : Nat) (env : List (List Vl)) (E : Option Addr) (ke : Nat) (g2 g3 i : Nat) (hi : i < x.l.length) (W : World) (y : Vl) (f : Int) (b2 : Blok W g2 26 (exC x A k).toArray) (b3 : Blok W g3 27 #[.slice E env.length ke])
    (ra : ExsR (PRow W) A x.l)
    (hv : ∀ B j W', ExsR (PRow W) B x.l[i].l → Grew W W' → Gives Try.prog 18 #[exV x.l[i] B j, .slice E env.length ke] W' (.tuple #[vlV y, .int .i64 f])) :
    Gives Try.prog 96 #[.int .i64 i, .pointer (some ⟨g2, 0, none⟩), .pointer (some ⟨g3, 0, none⟩)] W (.tuple #[vlV y, .int .i64 f]) := by
  obtain ⟨b, o, B, j, rfl, hp, h9⟩ := exsR_nine ra hi
  have HV : Hid (∀ W', Grew W W' → Gives Try.prog 18 #[exV x.l[i] B j, .slice E env.length ke] W' (.tuple #[vlV y, .int .i64 f])) := Lib.hid fun W' hW => hv B j W' hp hW
  obtain ⟨q0, s0, s1, s2, s3, s4, s5, s6, s7, s8⟩ := blok9 b2
  have t0 := b3.cell 0
  have tl := b3.lt
  simp at t0
  clear hv hp ra b2 b3
  obtain ⟨z0, a0, a1, a2, a3, a4, a5, a6, a7, a8⟩ := h9
  generalize x.l[i] = p at *
  generalize x.l.length = n at *
  obtain ⟨W1, hW1⟩ : ∃ W1 : World, W1 = W.alloc (.cells #[.int .i64 0, .int .i64 0, .string ⟨#[]⟩] 23) := ⟨_, rfl⟩
  have HG1 : Hid (Grew W W1) := Lib.hid (by rw [hW1]; exact (Grew.refl W).alloc _)
  have HB1 : Hid (Blok W1 W.heap.size 23 #[.int .i64 0, .int .i64 0, .string ⟨#[]⟩]) := Lib.hid (by rw [hW1]; exact Blok.new _ _ _ _ rfl)
  unfold exV at HV
  unfold Gives vlV at *
  go_enter Try.func96, Try.ntmps96
  go_upto_region 1 with fail
  rw [← hW1]
  have T : ∀ (b o : Nat) (v : Value), b < W.heap.size → W.cell? ⟨b, o, none⟩ = some v → b < W1.heap.size ∧ W1.cell? ⟨b, o, none⟩ = some v := fun b o v hb hc => ⟨Nat.lt_of_lt_of_le hb HG1.out.size, by rw [HG1.out.cell hb]; exact hc⟩
  obtain ⟨q0', s6'⟩ := T _ _ _ q0 s8
  obtain ⟨tl', t0'⟩ := T _ _ _ tl t0
  obtain ⟨z0', a0'⟩ := T _ _ _ z0 a0
  obtain ⟨_, a1'⟩ := T _ _ _ z0 a1
  obtain ⟨_, a2'⟩ := T _ _ _ z0 a2
  obtain ⟨_, a3'⟩ := T _ _ _ z0 a3
  obtain ⟨_, a4'⟩ := T _ _ _ z0 a4
  obtain ⟨_, a5'⟩ := T _ _ _ z0 a5
  obtain ⟨_, a6'⟩ := T _ _ _ z0 a6
  obtain ⟨_, a7'⟩ := T _ _ _ z0 a7
  obtain ⟨_, a8'⟩ := T _ _ _ z0 a8
  obtain ⟨zl, z1, z2, z3, y1, y2, y3⟩ := val_in HB1.out
  clear T hW1 q0 s0 s1 s2 s3 s4 s5 s6 s7 s8 tl t0 z0 a0 a1 a2 a3 a4 a5 a6 a7 a8
  have HVx : Hid (∀ x, Gives Try.prog 18 #[.agg #[.int .i64 p.op, .string p.tab, .string p.name, .int .i64 p.t, .int .i64 p.c, .int .i64 p.vk, .int .i64 p.vi, .string p.vs, .slice B p.l.length j], .slice E env.length ke] (more W1 x) (.tuple #[.agg #[.int .i64 y.k, .int .i64 y.i, .string y.s], .int .i64 f])) := Lib.hid fun x => HV.out _ (HG1.out.more x)
  refine wp_region_more_tail 9 (by kernel_rfl) (by kernel_rfl) ?_
  simp only [List.take_succ_cons, List.take_zero, List.drop_succ_cons, List.drop_zero]
  repeat (go_big_quiet_step (((first | (go_at_call 18; exact (HVx.out _).within)))))
  refine wpQuiet_nil ?_
  rintro _ ⟨z, rfl⟩
  go_wp2
  have hb := fun z => (val_set HB1.out (.int .i64 y.k) (.int .i64 y.i) (.string y.s)).grew (Grew.more (Grew.refl _) z)
  have q1 := fun z => (val_in (hb z)).2.1
  have q2 := fun z => (val_in (hb z)).2.2.1
  have q3 := fun z => (val_in (hb z)).2.2.2.1
  exact bodyPost_ret (v := .tuple #[.agg #[.int .i64 y.k, .int .i64 y.i, .string y.s], .int .i64 f]) (by simp [results, Try.results96, go_sem, q1, q2, q3]) rfl ⟨rfl, (Grew.more (grew_set3 HG1.out (Nat.le_refl _) _ _ _) _)⟩
set_option maxHeartbeats 1000000 in
/-- The closure of Truth tells the part i's truth. -/
theorem trut_any (x : Ex) (A : Option Addr) (k : Nat) (env : List (List Vl)) (E : Option Addr) (ke : Nat) (g2 g3 i : Nat) (hi : i < x.l.length) (W : World) (t : Int) (b2 : Blok W g2 26 (exC x A k).toArray) (b3 : Blok W g3 27 #[.slice E env.length ke])
    (ra : ExsR (PRow W) A x.l)
    (hv : ∀ B j W', ExsR (PRow W) B x.l[i].l → Grew W W' → Gives Try.prog 25 #[exV x.l[i] B j, .slice E env.length ke] W' (.int .i64 t)) :
    Gives Try.prog 97 #[.int .i64 i, .pointer (some ⟨g2, 0, none⟩), .pointer (some ⟨g3, 0, none⟩)] W (.int .i64 t) := by
  obtain ⟨b, o, B, j, rfl, hp, h9⟩ := exsR_nine ra hi
  have HV : Hid (∀ W', Grew W W' → Gives Try.prog 25 #[exV x.l[i] B j, .slice E env.length ke] W' (.int .i64 t)) := Lib.hid fun W' hW => hv B j W' hp hW
  obtain ⟨q0, s0, s1, s2, s3, s4, s5, s6, s7, s8⟩ := blok9 b2
  have t0 := b3.cell 0
  have tl := b3.lt
  simp at t0
  clear hv hp ra b2 b3
  obtain ⟨z0, a0, a1, a2, a3, a4, a5, a6, a7, a8⟩ := h9
  generalize x.l[i] = p at *
  generalize x.l.length = n at *
  unfold exV at HV
  unfold Gives at *
  go_enter Try.func97, Try.ntmps97
  go_upto_region 1 with fail
  have HVx : Hid (∀ x, Gives Try.prog 25 #[.agg #[.int .i64 p.op, .string p.tab, .string p.name, .int .i64 p.t, .int .i64 p.c, .int .i64 p.vk, .int .i64 p.vi, .string p.vs, .slice B p.l.length j], .slice E env.length ke] (more W x) (.int .i64 t)) := Lib.hid fun x => HV.out _ ((Grew.refl _).more x)
  refine wp_region_more_tail 7 (by kernel_rfl) (by kernel_rfl) ?_
  simp only [List.take_succ_cons, List.take_zero, List.drop_succ_cons, List.drop_zero]
  repeat (go_big_quiet_step (((first | (go_at_call 25; exact (HVx.out _).within)))))
  refine wpQuiet_nil ?_
  rintro _ ⟨z, rfl⟩
  go_wp2
  go_ret
  exact ⟨rfl, (Grew.refl _).more _⟩
set_option maxHeartbeats 1000000 in
set_option maxRecDepth 20000 in
theorem truthE_any (env : List (List Vl)) (he : RwsOk env) (E : Option Addr) (ke : Nat) : ∀ (n : Nat) (x : Ex), SizeOf.sizeOf x ≤ n → ExOk x → ∀ (A : Option Addr) (k : Nat) (w : World), ExsR (PRow w) A x.l → RwsR (PRow w) E env →
    Gives Try.prog 25 #[exV x A k, .slice E env.length ke] w (.int .i64 (evalT env x))
  | 0, x, hn, _, _, _, _, _, _ => by cases x; simp at hn
  | n + 1, x, hn, hx, A, k, w, ra, rb => by
    have ih := truthE_any env he E ke n
    obtain ⟨W0, hW0⟩ : ∃ W0, W0 = (w.alloc (.cells (exC x A k).toArray 26)).alloc (.cells #[.slice E env.length ke] 27) := ⟨_, rfl⟩
    have HG0 : Hid (Grew w W0) := Lib.hid (by rw [hW0]; exact ((Grew.refl w).alloc _).alloc _)
    have HX0 : Hid (Blok W0 w.heap.size 26 (exC x A k).toArray) := Lib.hid (by rw [hW0]; exact (Blok.new _ _ _ _ rfl).alloc _)
    have HE0 : Hid (Blok W0 (w.heap.size + 1) 27 #[.slice E env.length ke]) := Lib.hid (by rw [hW0]; exact Blok.new _ _ _ _ (by simp))
    have HPV : ∀ (i : Nat) (hi : i < x.l.length), ValC W0 w.heap.size (w.heap.size + 1) i (evalV env x.l[i]).1 (evalV env x.l[i]).2 := fun i hi W hW =>
      truv_any x A k env E ke _ _ i hi W _ _ (HX0.out.grew hW) (HE0.out.grew hW) (ra.grew (HG0.out.trans hW)) fun B j W' hp hg => valE_any env he E ke _ _ (Nat.le_refl _) (hx.part hi) B j W' (hp.grew hg) (rb.grew (HG0.out.trans (hW.trans hg)))
    have HPT : ∀ (i : Nat) (hi : i < x.l.length), TruC W0 w.heap.size (w.heap.size + 1) i (evalT env x.l[i]) := fun i hi W hW =>
      trut_any x A k env E ke _ _ i hi W _ (HX0.out.grew hW) (HE0.out.grew hW) (ra.grew (HG0.out.trans hW)) fun B j W' hp hg => ih _ (by
        have := size_part hi
        omega) (hx.part hi) B j W' (hp.grew hg) (rb.grew (HG0.out.trans (hW.trans hg)))
    have HS1 : Hid (x.l.length = 1 → Gives Try.prog 98 #[.int .i64 x.op, clV1 w.heap.size (w.heap.size + 1), clV2 w.heap.size (w.heap.size + 1)] W0 (.int .i64 (evalT env x))) := Lib.hid fun hl => by
      rw [evalT_one hl]
      exact one_any x.op _ _ W0 _ _ _ (HPV 0 (by omega)) (HPT 0 (by omega))
    have HS2 : Hid (x.l.length = 2 → Gives Try.prog 99 #[.int .i64 x.op, clV1 w.heap.size (w.heap.size + 1), clV2 w.heap.size (w.heap.size + 1)] W0 (.int .i64 (evalT env x))) := Lib.hid fun hl => by
      rw [evalT_two hl]
      exact two_any x.op _ _ W0 _ _ _ _ _ _ (HPV 0 (by omega)) (HPV 1 (by omega)) (HPT 0 (by omega)) (HPT 1 (by omega))
    clear HPV HPT ih ra rb
    obtain ⟨q0, s0, s1, s2, s3, s4, s5, s6, s7, s8⟩ := blok9 HX0.out
    clear HX0 HE0 hx hn
    by_cases h1 : x.l.length = 1
    · have HS := Lib.hid (HS1.out h1)
      have e1 : ((x.l.length : Int) == 1) = true := by rw [h1]; rfl
      clear HS1 HS2 h1
      unfold exV
      unfold clV1 clV2 at HS
      unfold Gives
      unfold exC at hW0
      generalize evalT env x = r at *
      generalize x.l.length = m at *
      generalize env.length = el at *
      go_enter Try.func25, Try.ntmps25
      go_upto_region 1 with fail
      rw [← hW0]
      clear hW0
      go_wp2_with (first
        | (go_at_call 98; (with_reducible refine (HS.out).grows.mono ?_); rintro e w4 ⟨rfl, hg4⟩; have HG4 : Hid (Grew w w4) := Lib.hid (HG0.out.trans hg4); clear hg4))
      go_ret
      exact ⟨rfl, HG4.out⟩
    · have e1 : ((x.l.length : Int) == 1) = false := by rw [beq_eq_false_iff_ne]; omega
      by_cases h2 : x.l.length = 2
      · have HS := Lib.hid (HS2.out h2)
        have e2 : ((x.l.length : Int) == 2) = true := by rw [h2]; rfl
        clear HS1 HS2 h1 h2
        unfold exV
        unfold clV1 clV2 at HS
        unfold Gives
        unfold exC at hW0
        generalize evalT env x = r at *
        generalize x.l.length = m at *
        generalize env.length = el at *
        go_enter Try.func25, Try.ntmps25
        go_upto_region 1 with fail
        rw [← hW0]
        clear hW0
        go_wp2_with (first
          | (go_at_call 99; (with_reducible refine (HS.out).grows.mono ?_); rintro e w4 ⟨rfl, hg4⟩; have HG4 : Hid (Grew w w4) := Lib.hid (HG0.out.trans hg4); clear hg4))
        go_ret
        exact ⟨rfl, HG4.out⟩
      · rw [evalT_else h1 h2]
        have e2 : ((x.l.length : Int) == 2) = false := by rw [beq_eq_false_iff_ne]; omega
        clear HS1 HS2 h1 h2
        unfold exV Gives
        unfold exC at hW0
        generalize x.l.length = m at *
        generalize env.length = el at *
        go_enter Try.func25, Try.ntmps25
        go_upto_region 1 with fail
        rw [← hW0]
        clear hW0
        go_wp2
        go_ret
        exact ⟨rfl, HG0.out⟩
end Go.Proofs.Ytddambfniaiogaa

/- Layer 13: the page's example, and the place of a code. No condition. -/
namespace Go.Proofs.Ytddambfniaiogaa
open Go.RowKit
attribute [local go_sem] more_cell more_frozen more_more more_setCell more_of_drew more_of_drewN lt_more le_more past_cell past_cell2 past_frozen past_frozen2 past_setCell past_setCell2 mid_cell mid_frozen mid_setCell
attribute [local go_sem ↓] Go.wp_at_zero Go.wp_at_succ

theorem code13_any (f : Int) (w : World) : Gives Try.prog 20 #[.int .i64 f] w (.int .i64 f) := by
  unfold Gives
  go_enter Try.func20, Try.ntmps20
  go_wp2
  go_ret
  exact ⟨rfl, by (show Grew _ _; repeat (first | exact Grew.refl _ | refine Grew.alloc ?_ _ | refine Grew.drew ?_ | refine Grew.more ?_ _))⟩
def leafE (op : Int) : Ex := .mk op es es 0 0 0 0 es []
def live13E : Ex := .mk 1 es es 0 0 0 0 es [leafE 15, leafE 16]
def live13N : Ex := .mk 12 es es 0 0 0 0 es [live13E]
def live13R : List (List Vl) := [[⟨1, 7, es⟩]]
theorem es_small : es.size ≤ 140737488355328 := by show (0 : Nat) ≤ _; omega
theorem leaf_ok (op : Int) (h : (Lit.int .i64 op).wf = true) : ExOk (leafE op) :=
  .mk _ h es_small es_small (show (Lit.int .i64 0).wf = true by decide) (show (Lit.int .i64 0).wf = true by decide) ⟨show (Lit.int .i64 0).wf = true by decide, show (Lit.int .i64 0).wf = true by decide, es_small⟩ (by show (0 : Nat) ≤ _; omega) (fun y hy => by cases hy)
theorem live13E_ok : ExOk live13E :=
  .mk _ (by decide) es_small es_small (by decide) (by decide) ⟨by decide, by decide, es_small⟩ (by show (2 : Nat) ≤ _; omega) (fun y hy => by
    simp only [live13E, Ex.l, List.mem_cons, List.not_mem_nil, or_false] at hy
    rcases hy with rfl | rfl
    · exact leaf_ok 15 (by decide)
    · exact leaf_ok 16 (by decide))
theorem live13N_ok : ExOk live13N :=
  .mk _ (by decide) es_small es_small (by decide) (by decide) ⟨by decide, by decide, es_small⟩ (by show (1 : Nat) ≤ _; omega) (fun y hy => by
    simp only [live13N, Ex.l, List.mem_cons, List.not_mem_nil, or_false] at hy
    subst hy
    exact live13E_ok)
theorem live13R_ok : RwsOk live13R := ⟨by show (1 : Nat) ≤ _; omega, fun r hr => by
  simp only [live13R, List.mem_cons, List.not_mem_nil, or_false] at hr
  subst hr
  refine ⟨by show (1 : Nat) ≤ _; omega, fun v hv => ?_⟩
  simp only [List.mem_cons, List.not_mem_nil, or_false] at hv
  subst hv
  exact ⟨by decide, by decide, es_small⟩⟩
theorem live13_a : evalV live13R (leafE 15) = (⟨1, 7, es⟩, 0) := by
  rw [evalV_col (by rfl)]
  rfl
theorem live13_b : evalV live13R (leafE 16) = (⟨0, 0, es⟩, 0) := by
  rw [evalV_val (by rfl)]
  rfl
theorem live13_e : evalT live13R live13E = 2 := by
  rw [evalT_two (by rfl)]
  show twoT 1 (evalV live13R (leafE 15)) (evalV live13R (leafE 16)) _ _ = 2
  rw [live13_a, live13_b]
  rfl
theorem live13_n : evalT live13R live13N = 2 := by
  rw [evalT_one (by rfl)]
  show oneT 12 _ (evalT live13R live13E) = 2
  rw [live13_e]
  rfl
theorem live13_parts {W : World} {g : Nat} (h : Row W (some ⟨g, 0, none⟩) (exC (leafE 15) none 0 ++ exC (leafE 16) none 0)) : ExsR (PRow W) (some ⟨g, 0, none⟩) live13E.l :=
  ⟨[exC (leafE 15) none 0, exC (leafE 16) none 0], listR_append (l := [leafE 15]) (listR_single (x := leafE 15) (exs_nil W) 0) (listR_single (x := leafE 16) (exs_nil W) 0), by simpa [PRow] using h⟩
theorem live13_one {W : World} {g : Nat} {A : Option Addr} {k : Nat} (h : Row W (some ⟨g, 0, none⟩) (exC live13E A k)) (ra : ExsR (PRow W) A live13E.l) : ExsR (PRow W) (some ⟨g, 0, none⟩) live13N.l :=
  ⟨[exC live13E A k], listR_single (x := live13E) ra k, by simpa [PRow] using h⟩
theorem live13_rows {W : World} {g b : Nat} (h : Row W (some ⟨g, 0, none⟩) [.slice (some ⟨b, 0, none⟩) 1 1]) (h2 : Row W (some ⟨b, 0, none⟩) [.int .i64 1, .int .i64 7, .string es]) : RwsR (PRow W) (some ⟨g, 0, none⟩) live13R :=
  ⟨[[.slice (some ⟨b, 0, none⟩) 1 1]], ⟨rfl, fun i x cs hi hd => by
    rcases i with _ | i
    · simp only [live13R, List.getElem?_cons_zero, Option.some.injEq] at hi hd
      subst hi hd
      exact ⟨⟨some ⟨b, 0, none⟩, 1, rfl, by simp, [[.int .i64 1, .int .i64 7, .string es]], ⟨rfl, fun j v ds hj hk => by
        rcases j with _ | j
        · simp only [List.getElem?_cons_zero, Option.some.injEq] at hj hk
          subst hj hk
          exact ⟨rfl, rfl⟩
        · simp at hj⟩, by simpa [PRow] using h2⟩, rfl⟩
    · simp [live13R] at hi⟩, by simpa [PRow] using h⟩
set_option maxHeartbeats 4000000 in
set_option maxRecDepth 100000 in
theorem live13_any (w : World) : Gives Try.prog 17 #[] w (.bool true) := by
  obtain ⟨W2, hW2⟩ : ∃ W2, W2 = (w.alloc (.cells #[.int .i64 15, .string ⟨#[]⟩, .string ⟨#[]⟩, .int .i64 0, .int .i64 0, .int .i64 0, .int .i64 0, .string ⟨#[]⟩, .slice none 0 0, .int .i64 16, .string ⟨#[]⟩, .string ⟨#[]⟩, .int .i64 0, .int .i64 0, .int .i64 0, .int .i64 0, .string ⟨#[]⟩, .slice none 0 0] 26)).alloc (.cells #[.int .i64 1, .string ⟨#[]⟩, .string ⟨#[]⟩, .int .i64 0, .int .i64 0, .int .i64 0, .int .i64 0, .string ⟨#[]⟩, .slice (some ⟨w.heap.size, 0, none⟩) 2 2] 26) := ⟨_, rfl⟩
  have HG2 : Hid (Grew w W2) := Lib.hid (by rw [hW2]; exact ((Grew.refl w).alloc _).alloc _)
  have HP : Hid (∀ W, Grew W2 W → ExsR (PRow W) (some ⟨w.heap.size, 0, none⟩) live13E.l) := Lib.hid fun W hW => live13_parts (Row.grew (by rw [hW2]; exact row_alloc (row_new w _ _ _ rfl) _ : Row W2 _ _) hW)
  have HX : Hid (∀ W, Grew W2 W → Blok W (w.heap.size + 1) 26 (exC live13E (some ⟨w.heap.size, 0, none⟩) 2).toArray) := Lib.hid fun W hW => Blok.grew (by rw [hW2]; exact Blok.new _ _ _ _ (by simp) : Blok W2 _ _ _) hW
  obtain ⟨W3, hW3⟩ : ∃ W3, W3 = (W2.alloc (.cells #[.int .i64 1, .int .i64 7, .string ⟨#[]⟩] 23)).alloc (.cells #[.slice (some ⟨W2.heap.size, 0, none⟩) 1 1] 46) := ⟨_, rfl⟩
  have HG3 : Hid (Grew W2 W3) := Lib.hid (by rw [hW3]; exact ((Grew.refl _).alloc _).alloc _)
  have HR : Hid (∀ W, Grew W3 W → RwsR (PRow W) (some ⟨W2.heap.size + 1, 0, none⟩) live13R) := Lib.hid fun W hW => live13_rows (Row.grew (by rw [hW3]; exact row_new _ _ _ _ (by simp) : Row W3 _ _) hW) (Row.grew (by rw [hW3]; exact row_alloc (row_new _ _ _ _ rfl) _ : Row W3 _ _) hW)
  obtain ⟨gp, hgp⟩ : ∃ gp, w.heap.size = gp := ⟨_, rfl⟩
  obtain ⟨gr, hgr⟩ : ∃ gr, W2.heap.size = gr := ⟨_, rfl⟩
  have HV : Hid (∀ W, Grew W3 W → Gives Try.prog 18 #[.agg #[.int .i64 15, .string ⟨#[]⟩, .string ⟨#[]⟩, .int .i64 0, .int .i64 0, .int .i64 0, .int .i64 0, .string ⟨#[]⟩, .slice none 0 0], .slice (some ⟨gr + 1, 0, none⟩) 1 1] W (.tuple #[.agg #[.int .i64 1, .int .i64 7, .string ⟨#[]⟩], .int .i64 0])) := Lib.hid fun W hW => by
    have h := valE_any live13R live13R_ok (some ⟨gr + 1, 0, none⟩) 1 _ (leafE 15) (Nat.le_refl _) (leaf_ok 15 (by decide)) none 0 W (exs_nil W) (hgr ▸ HR.out W hW)
    rw [live13_a] at h
    exact h
  have HT : Hid (∀ W, Grew W3 W → Gives Try.prog 25 #[.agg #[.int .i64 1, .string ⟨#[]⟩, .string ⟨#[]⟩, .int .i64 0, .int .i64 0, .int .i64 0, .int .i64 0, .string ⟨#[]⟩, .slice (some ⟨gp, 0, none⟩) 2 2], .slice (some ⟨gr + 1, 0, none⟩) 1 1] W (.int .i64 2)) := Lib.hid fun W hW => by
    have h := truthE_any live13R live13R_ok (some ⟨gr + 1, 0, none⟩) 1 _ live13E (Nat.le_refl _) live13E_ok (some ⟨gp, 0, none⟩) 2 W (hgp ▸ HP.out W (HG3.out.trans hW)) (hgr ▸ HR.out W hW)
    rw [live13_e] at h
    exact h
  have HN : Hid (∀ W, Grew W3 W → Gives Try.prog 25 #[.agg #[.int .i64 12, .string ⟨#[]⟩, .string ⟨#[]⟩, .int .i64 0, .int .i64 0, .int .i64 0, .int .i64 0, .string ⟨#[]⟩, .slice (some ⟨W.heap.size, 0, none⟩) 1 1], .slice (some ⟨gr + 1, 0, none⟩) 1 1] (W.alloc (.cells #[.int .i64 1, .string ⟨#[]⟩, .string ⟨#[]⟩, .int .i64 0, .int .i64 0, .int .i64 0, .int .i64 0, .string ⟨#[]⟩, .slice (some ⟨gp, 0, none⟩) 2 2] 26)) (.int .i64 2)) := Lib.hid fun W hW => by
    have hg : Grew W3 (W.alloc (.cells #[.int .i64 1, .string ⟨#[]⟩, .string ⟨#[]⟩, .int .i64 0, .int .i64 0, .int .i64 0, .int .i64 0, .string ⟨#[]⟩, .slice (some ⟨gp, 0, none⟩) 2 2] 26)) := hW.alloc _
    have h := truthE_any live13R live13R_ok (some ⟨gr + 1, 0, none⟩) 1 _ live13N (Nat.le_refl _) live13N_ok (some ⟨W.heap.size, 0, none⟩) 1 _ (live13_one (A := some ⟨gp, 0, none⟩) (k := 2) (row_new W _ _ _ rfl) (hgp ▸ HP.out _ (HG3.out.trans hg))) (hgr ▸ HR.out _ hg)
    rw [live13_n] at h
    exact h
  have HGP := Lib.hid hgp
  have HGR := Lib.hid hgr
  clear HR HP hgp hgr
  unfold Gives
  go_enter Try.func17, Try.ntmps17
  go_upto_region 2 with fail
  rw [← hW2]
  clear hW2
  rw [HGP.out] at HX ⊢
  clear HGP
  go_upto_region 3 with fail
  rw [← hW3]
  clear hW3
  rw [HGR.out] at ⊢
  clear HGR
  go_upto_region 4 with (go_at_call 18; (with_reducible refine (HV.out _ (Grew.refl _)).grows.mono ?_); rintro e w4 ⟨rfl, hg4⟩; have HG4 := Lib.hid hg4; clear hg4)
  obtain ⟨W4, hW4⟩ : ∃ W4, W4 = w4.alloc (.cells #[.int .i64 1, .int .i64 7, .string ⟨#[]⟩] 23) := ⟨_, rfl⟩
  have HG4 : Hid (Grew W3 W4) := Lib.hid (by rw [hW4]; exact HG4.out.alloc _)
  have HB4 : Hid (Blok W4 w4.heap.size 23 #[.int .i64 1, .int .i64 7, .string ⟨#[]⟩]) := Lib.hid (by rw [hW4]; exact Blok.new _ _ _ _ rfl)
  rw [← hW4]
  clear hW4 HV
  generalize w4.heap.size = g4 at *
  obtain ⟨la, a0, a1, a2, a3, a4, a5, a6, a7, a8⟩ := blok9c (HX.out _ (HG3.out.trans HG4.out))
  go_wp2_with fail
  refine (HT.out _ HG4.out).grows.mono ?_
  rintro e w5 ⟨rfl, hg5⟩
  have HG5 := Lib.hid (HG4.out.trans hg5)
  have HB5 := Lib.hid (HB4.out.grew hg5)
  clear hg5 HB4 HT la a0 a1 a2 a3 a4 a5 a6 a7 a8
  obtain ⟨la, a0, a1, a2, a3, a4, a5, a6, a7, a8⟩ := blok9c (HX.out _ (HG3.out.trans HG5.out))
  go_wp2_with fail
  refine (HN.out _ HG5.out).grows.mono ?_
  rintro e w6 ⟨rfl, hg6⟩
  have HG6 := Lib.hid (HG5.out.trans ((Grew.alloc (Grew.refl _) _).trans hg6))
  obtain ⟨p1, c0, c1, c2, d0, d1, d2⟩ := val_in (HB5.out.grew ((Grew.alloc (Grew.refl _) _).trans hg6))
  clear hg6 HN la a0 a1 a2 a3 a4 a5 a6 a7 a8
  go_wp2_with (go_at_call 20; (with_reducible refine (code13_any _ _).grows.mono ?_); rintro e w7 ⟨rfl, hg7⟩; have HG7 := Lib.hid (HG6.out.trans hg7); clear hg7)
  go_ret
  exact ⟨rfl, HG2.out.trans (HG3.out.trans HG7.out)⟩
end Go.Proofs.Ytddambfniaiogaa

/- Layer 13: the law of values. Condition: an expression and rows that lie in memory that is there, no part beyond the reach. -/
namespace Go.Proofs.Ytddambfniaiogaa
open Go.RowKit
attribute [local go_sem] more_cell more_frozen more_more more_setCell more_of_drew more_of_drewN lt_more le_more past_cell past_cell2 past_frozen past_frozen2 past_setCell past_setCell2 mid_cell mid_frozen mid_setCell
attribute [local go_sem ↓] Go.wp_at_zero Go.wp_at_succ

set_option maxHeartbeats 4000000 in
set_option maxRecDepth 100000 in
theorem evalVals_walk (x : Ex) (A : Option Addr) (k : Nat) (env : List (List Vl)) (E : Option Addr) (ke : Nat) (t c : Int) (w : World) (hx : ExOk x) (he : RwsOk env) (ra : ExsR (PRow w) A x.l) (rb : RwsR (PRow w) E env) :
    Gives Try.prog 3 #[exV x A k, .slice E env.length ke, .int .i64 t, .int .i64 c] w (.bool true) := by
  have HM1 : Hid (∀ W, Grew w W → Calls Try.prog 15 #[exV x A k] W (MuchR W (x.nodes ≤ 200))) := Lib.hid fun W hW => much8_any x A k W (ra.grew hW)
  have HM2 : Hid (∀ W, Grew w W → Calls Try.prog 16 #[.slice E env.length ke] W (MuchR W (goodEnv env))) := Lib.hid fun W hW => much13_any env he E ke W (rb.grew hW)
  obtain ⟨⟨⟨vk, vi, vs⟩, f⟩, hv⟩ : ∃ p, evalV env x = p := ⟨_, rfl⟩
  have HV1 : Hid (∀ W, Grew w W → Gives Try.prog 18 #[exV x A k, .slice E env.length ke] W (.tuple #[.agg #[.int .i64 vk, .int .i64 vi, .string vs], .int .i64 f])) := Lib.hid fun W hW => by
    have := valE_any env he E ke _ x (Nat.le_refl _) hx A k W (ra.grew hW) (rb.grew hW)
    rw [hv] at this
    exact this
  have HV2 : Hid (∀ W, Grew w W → Gives Try.prog 19 #[exV x A k, .slice E env.length ke] W (.tuple #[.agg #[.int .i64 vk, .int .i64 vi, .string vs], .int .i64 f])) := Lib.hid fun W hW => by
    have := rvalE_any env he E ke _ x (Nat.le_refl _) hx A k W (ra.grew hW) (rb.grew hW)
    rw [hv] at this
    exact this
  obtain ⟨⟨ak, ai, at_⟩, ha⟩ : ∃ p, atE env t c = p := ⟨_, rfl⟩
  have HA1 : Hid (∀ W, Grew w W → Gives Try.prog 21 #[.slice E env.length ke, .int .i64 t, .int .i64 c] W (.agg #[.int .i64 ak, .int .i64 ai, .string at_])) := Lib.hid fun W hW => by
    have := at_any env he E ke t c W (rb.grew hW)
    rw [ha] at this
    exact this
  have HA2 : Hid (∀ W, Grew w W → Gives Try.prog 22 #[.slice E env.length ke, .int .i64 t, .int .i64 c] W (.agg #[.int .i64 ak, .int .i64 ai, .string at_])) := Lib.hid fun W hW => by
    have := rat_any env he E ke t c W (rb.grew hW)
    rw [ha] at this
    exact this
  obtain ⟨W0, hW0⟩ : ∃ W0, W0 = w.alloc (.cells (exC x A k).toArray 26) := ⟨_, rfl⟩
  have HG0 : Hid (Grew w W0) := Lib.hid (by rw [hW0]; exact (Grew.refl w).alloc _)
  have HX0 : Hid (Blok W0 w.heap.size 26 (exC x A k).toArray) := Lib.hid (by rw [hW0]; exact Blok.new _ _ _ _ rfl)
  have evk : (vk == vk) = true := by simp
  have evi : (vi == vi) = true := by simp
  have evs : (vs.toList == vs.toList) = true := beq_self_eq_true _
  have ef : (f == f) = true := by simp
  have eak : (ak == ak) = true := by simp
  have eai : (ai == ai) = true := by simp
  have eas : (at_.toList == at_.toList) = true := beq_self_eq_true _
  generalize env.length = n at *
  clear hv ha ra rb hx he
  unfold exV at *
  unfold Gives
  go_enter Try.func3, Try.ntmps3
  go_upto_region 1 with fail
  change Code.wp _ _ _ _ (w.alloc (.cells (exC x A k).toArray 26))
  rw [← hW0]
  clear hW0
  generalize w.heap.size = g at *
  obtain ⟨la, a0, a1, a2, a3, a4, a5, a6, a7, a8⟩ := blok9 HX0.out
  go_wp2_with fail
  refine (HM1.out _ HG0.out).mono ?_
  rintro e w2 ⟨t1, rfl, hg2, h1⟩
  have HG2 := Lib.hid (HG0.out.trans hg2)
  have HX2 := Lib.hid (HX0.out.grew hg2)
  clear hg2 h1 la a0 a1 a2 a3 a4 a5 a6 a7 a8 HM1 HX0
  cases t1
  rotate_left
  · clear HV1 HV2 HA1 HA2 HM2 HX2
    go_wp2_with (first | (go_at_call 17; (with_reducible refine (live13_any _).grows.mono ?_); rintro e w6 ⟨rfl, hg6⟩; have G6 := Lib.hid hg6; clear hg6))
    go_ret
    exact ⟨rfl, HG2.out.trans G6.out⟩
  go_wp2_with fail
  refine (HM2.out _ HG2.out).mono ?_
  rintro e w3 ⟨t2, rfl, hg3, h2⟩
  have HG3 := Lib.hid (HG2.out.trans hg3)
  have HX3 := Lib.hid (HX2.out.grew hg3)
  clear hg3 h2 HM2 HX2
  cases t2
  rotate_left
  · clear HV1 HV2 HA1 HA2 HX3
    go_wp2_with (first | (go_at_call 17; (with_reducible refine (live13_any _).grows.mono ?_); rintro e w6 ⟨rfl, hg6⟩; have G6 := Lib.hid hg6; clear hg6))
    go_ret
    exact ⟨rfl, HG3.out.trans G6.out⟩
  obtain ⟨la, a0, a1, a2, a3, a4, a5, a6, a7, a8⟩ := blok9 HX3.out
  go_upto_region 4 with (first | (go_at_call 18; (with_reducible refine (HV1.out _ HG3.out).grows.mono ?_); rintro e w4 ⟨rfl, hg4⟩; have HG4 := Lib.hid (HG3.out.trans hg4); have HX4 := Lib.hid (HX3.out.grew hg4); clear hg4))
  clear la a0 a1 a2 a3 a4 a5 a6 a7 a8 HX3 HV1
  obtain ⟨W4, hW4⟩ : ∃ W4, W4 = w4.alloc (.cells #[.int .i64 vk, .int .i64 vi, .string vs] 23) := ⟨_, rfl⟩
  have HG4 : Hid (Grew w W4) := Lib.hid (by rw [hW4]; exact HG4.out.alloc _)
  have HX4 := Lib.hid (show Blok W4 _ _ _ by rw [hW4]; exact HX4.out.alloc _)
  have HB4 : Hid (Blok W4 w4.heap.size 23 #[.int .i64 vk, .int .i64 vi, .string vs]) := Lib.hid (by rw [hW4]; exact Blok.new _ _ _ _ rfl)
  rw [← hW4]
  clear hW4
  generalize w4.heap.size = g4 at *
  obtain ⟨la, a0, a1, a2, a3, a4, a5, a6, a7, a8⟩ := blok9 HX4.out
  go_upto_region 5 with (first | (go_at_call 19; (with_reducible refine (HV2.out _ HG4.out).grows.mono ?_); rintro e w5 ⟨rfl, hg5⟩; have HG5 := Lib.hid (HG4.out.trans hg5); have HB5 := Lib.hid (HB4.out.grew hg5); clear hg5))
  clear la a0 a1 a2 a3 a4 a5 a6 a7 a8 HX4 HV2
  obtain ⟨W5, hW5⟩ : ∃ W5, W5 = w5.alloc (.cells #[.int .i64 vk, .int .i64 vi, .string vs] 23) := ⟨_, rfl⟩
  have HG5 : Hid (Grew w W5) := Lib.hid (by rw [hW5]; exact HG5.out.alloc _)
  have HB5 := Lib.hid (show Blok W5 _ _ _ by rw [hW5]; exact HB5.out.alloc _)
  have HC5 : Hid (Blok W5 w5.heap.size 23 #[.int .i64 vk, .int .i64 vi, .string vs]) := Lib.hid (by rw [hW5]; exact Blok.new _ _ _ _ rfl)
  rw [← hW5]
  clear hW5
  generalize w5.heap.size = g5 at *
  obtain ⟨p1, c0, c1, c2, _, _, _⟩ := val_in HB5.out
  obtain ⟨p2, d0, d1, d2, _, _, _⟩ := val_in HC5.out
  go_wp2_with (first
    | (go_at_call 20; (with_reducible refine (code13_any _ _).grows.mono ?_); rintro e w6 ⟨rfl, hg6⟩; have HG6 := Lib.hid (HG5.out.trans hg6); clear hg6)
    | (go_at_call 21; (with_reducible refine (HA1.out _ HG6.out).grows.mono ?_); rintro e w7 ⟨rfl, hg7⟩; have HG7 := Lib.hid (HG6.out.trans hg7); clear hg7)
    | (go_at_call 22; (with_reducible refine (HA2.out _ HG7.out).grows.mono ?_); rintro e w8 ⟨rfl, hg8⟩; have HG8 := Lib.hid (HG7.out.trans hg8); clear hg8)
    | (go_at_call 17; (with_reducible refine (live13_any _).grows.mono ?_); rintro e w9 ⟨rfl, hg9⟩; have HG9 := Lib.hid (HG8.out.trans hg9); clear hg9))
  go_ret
  exact ⟨rfl, HG9.out⟩
end Go.Proofs.Ytddambfniaiogaa

namespace Go.Proofs.Ytddambfniaiogaa.evalVals
open Go.RowKit Go.ChangeShapes Go.WideShapes Go.ChangeAt Go.Joins

theorem reads : ∀ t ∈ Try.f3.params.toList, Try.prog.readableRec t = true ∧ t < Try.prog.types.size := by
  rw [Try.params3]
  intro t ht
  simp only [List.mem_cons, List.not_mem_nil, or_false] at ht
  rcases ht with rfl | rfl | rfl | rfl
  all_goals exact ⟨by kernel_rfl, of_decide_eq_true (by kernel_rfl)⟩

set_option maxRecDepth 100000 in
theorem lifted (os : Os) (started : os.Started) (H : Type) (enc : TypeId × Value → H) :
    ReturnsInHanded {} Try.checked os 3 .any (Rows.evalValsSpec.pre6 enc Try.prog Try.f3 Rows.evalValsRow.domain false) (Rows.evalValsSpec.post enc Try.prog Try.f3 false true false false) := by
  refine returnsInHanded_of_change_sized (C := Try.checked) own started (by kernel_rfl) Try.func3
    (ChangeSpec.witness6 (enc := enc) (C := Try.checked) false ⟨#[], #[.agg #[.int .i64 0, .string ByteArray.empty, .string ByteArray.empty, .int .i64 0, .int .i64 0, .int .i64 0, .int .i64 0, .string ByteArray.empty, .slice none 0 0], .slice none 0 0, .int .i64 0, .int .i64 0], []⟩ 8 (by kernel_rfl) (by kernel_rfl) (by kernel_rfl) (by kernel_rfl)) ?_
  intro W base args ds gs before hval0 hW hcnd hsz0 _
  have hval : ∀ (j : Nat) t v, Try.f3.params[j]? = some t → args[j]? = some v → Value.okWide Try.prog W .any base t v := hval0
  have hW' := hW
  obtain ⟨p, q, hA0, hV, hpq, hfz, hnd⟩ := hW
  have hA : DataW.TrodAll enc Try.prog W 0 (fun _ => true) true Try.f3.params.toList args.toList ds p := hA0
  rw [Try.params3] at hA hval
  obtain ⟨v0, vs0, d0, ds0, p0, q0, hargs, rfl, rfl, h0, r0⟩ := trodAll_cons hA
  obtain ⟨v1, vs1, d1, ds1, p1, q1, rfl, rfl, rfl, h1, r1⟩ := trodAll_cons r0
  obtain ⟨v2, vs2, d2, ds2, p2, q2, rfl, rfl, rfl, h2, r2⟩ := trodAll_cons r1
  obtain ⟨v3, vs3, d3, ds3, p3, q3, rfl, rfl, rfl, h3, r3⟩ := trodAll_cons r2
  obtain ⟨rfl, rfl, rfl⟩ := trodAll_nil r3
  obtain rfl : args = #[v0, v1, v2, v3] := by cases args; simp_all
  obtain ⟨rfl, rfl⟩ := trodVars_none hV
  have hz : (DataW.weightsEach Try.prog [26, 27, 3, 3] [d0, d1, d2, d3]).all (· ≤ reachBytes) = true := hsz0
  simp only [DataW.weightsEach, List.all_append, List.append_nil, Bool.and_eq_true] at hz
  obtain ⟨zz0, zz1, zz2, zz3⟩ := hz
  obtain ⟨ecs, e, rfl, ze, te, ke⟩ := rdw_arg Try.underlying26 rdw_ex (hval 0 26 v0 rfl rfl) h0 zz0
  obtain ⟨eA, ec, ee, re⟩ := te.parts
  obtain rfl : ecs = (exC e eA ec).toArray := Array.ext' (by simpa using ee)
  have o1 := rdw_arg_slice Try.underlying27 rdw_rows (hval 1 27 v1 rfl rfl) h1 zz1
  obtain ⟨env, ⟨envA, envc, eenv, cenv, renv⟩, kenv⟩ := o1
  obtain rfl := List.cons.inj eenv |>.1
  obtain ⟨t, rfl, rfl, rfl, wt⟩ := open_int Try.underlying3 (hval 2 3 v2 rfl rfl) h2
  obtain ⟨c, rfl, rfl, rfl, wc⟩ := open_int Try.underlying3 (hval 3 3 v3 rfl rfl) h3
  refine (evalVals_walk e eA ec env envA envc t c W ke kenv re renv).mono fun e W' ⟨he, hg⟩ => ?_
  subst he
  exact ⟨_, rfl, law_post hW' rfl rfl Try.underlying4 rfl rfl rfl laid_out reads (Grew.below hg)⟩

theorem over : Rows.evalValsRow.holds Try.pinned (OpenSpec.ofChange Rows.evalValsSpec) :=
  OpenClaim.holds_of_wide 3 Try.f3 rfl rfl rfl rfl rfl rfl rfl ⟨rfl, rfl, rfl, rfl, rfl⟩ rfl rfl rfl rfl rfl (by kernel_rfl) Try.func3 (by kernel_rfl)
    (of_decide_eq_true (by kernel_rfl)) (by unfold Func.isWrapper; first | (rw [if_pos (by decide +kernel)]; kernel_rfl) | (rw [if_neg (by decide +kernel)]; exact ⟨rfl, rfl⟩))
    (fun os started H enc _ => lifted os started H enc)

theorem proved : Rows.EvalValsSaid := over

end Go.Proofs.Ytddambfniaiogaa.evalVals
