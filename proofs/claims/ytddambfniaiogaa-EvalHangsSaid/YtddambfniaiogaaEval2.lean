/- Layer 13: values of expressions, by the program and by the document. Condition: rows and expressions that lie in memory that is there. -/
import Derived.Test.YtddambfniaiogaaEval
namespace Go.Proofs.Ytddambfniaiogaa
open Go.RowKit
attribute [local go_sem] more_cell more_frozen more_more more_setCell more_of_drew more_of_drewN lt_more le_more past_cell past_cell2 past_frozen past_frozen2 past_setCell past_setCell2 mid_cell mid_frozen mid_setCell
attribute [local go_sem ↓] Go.wp_at_zero Go.wp_at_succ

set_option maxHeartbeats 1000000 in
theorem rat_any (env : List (List Vl)) (he : RwsOk env) (A : Option Addr) (k : Nat) (t c : Int) (w : World) (ra : RwsR (PRow w) A env) :
    Gives Try.prog 22 #[.slice A env.length k, .int .i64 t, .int .i64 c] w (vlV (atE env t c)) := by
  have hlen := he.1
  unfold Gives
  by_cases h1 : 0 ≤ t ∧ t < env.length
  · obtain ⟨h1, h2⟩ := h1
    obtain ⟨t, rfl⟩ : ∃ n : Nat, t = n := ⟨t.toNat, by omega⟩
    have ht : t < env.length := by omega
    obtain ⟨b, o, B, kb, rfl, hb, hc, _, hv⟩ := rwsR_at ra ht
    have hl2 := (he.2 _ (List.getElem_mem ht)).1
    have e0 : env.getD (t : Int).toNat [] = env[t] := by simp [List.getD, ht]
    by_cases h3 : 0 ≤ c
    · by_cases h4 : c < (env[t].length : Int)
      · obtain ⟨c, rfl⟩ : ∃ n : Nat, c = n := ⟨c.toNat, by omega⟩
        have hcl : c < env[t].length := by omega
        obtain ⟨b', o', rfl, hb', c0, c1, c2⟩ := vlsR_at hv hcl
        rw [atE_in ht hcl]
        clear e0 hv ra
        generalize hr : env[t] = r at *
        clear hr
        obtain ⟨x, hx⟩ : ∃ x, r[c] = x := ⟨_, rfl⟩
        rw [hx] at c0 c1 c2 ⊢
        clear hx
        unfold vlV
        go_enter Try.func22, Try.ntmps22
        go_wp2
        exact bodyPost_ret (v := .agg #[.int .i64 x.k, .int .i64 x.i, .string x.s]) (by simp [results, Try.results22, go_sem]) rfl ⟨rfl, by (show Grew _ _; repeat (first | exact Grew.refl _ | refine Grew.alloc ?_ _ | refine Grew.drew ?_ | refine Grew.more ?_ _))⟩
      · have h4' : (env[t].length : Int) ≤ c := by omega
        rw [atE_out (by rw [e0]; omega)]
        clear e0 hv ra h4
        generalize env[t] = r at *
        unfold vlV zV
        go_enter Try.func22, Try.ntmps22
        go_wp2
        exact bodyPost_ret (v := .agg #[.int .i64 0, .int .i64 0, .string ⟨#[]⟩]) (by simp [results, Try.results22, go_sem]) rfl ⟨rfl, by (show Grew _ _; repeat (first | exact Grew.refl _ | refine Grew.alloc ?_ _ | refine Grew.drew ?_ | refine Grew.more ?_ _))⟩
    · have h3' : c < 0 := by omega
      rw [atE_out (by omega)]
      clear e0 hv ra h3
      generalize env[t] = r at *
      unfold vlV zV
      go_enter Try.func22, Try.ntmps22
      go_wp2
      exact bodyPost_ret (v := .agg #[.int .i64 0, .int .i64 0, .string ⟨#[]⟩]) (by simp [results, Try.results22, go_sem]) rfl ⟨rfl, by (show Grew _ _; repeat (first | exact Grew.refl _ | refine Grew.alloc ?_ _ | refine Grew.drew ?_ | refine Grew.more ?_ _))⟩
  · rw [atE_out (by omega)]
    unfold vlV zV
    clear ra
    by_cases h0 : t < 0
    · go_enter Try.func22, Try.ntmps22
      go_wp2
      exact bodyPost_ret (v := .agg #[.int .i64 0, .int .i64 0, .string ⟨#[]⟩]) (by simp [results, Try.results22, go_sem]) rfl ⟨rfl, by (show Grew _ _; repeat (first | exact Grew.refl _ | refine Grew.alloc ?_ _ | refine Grew.drew ?_ | refine Grew.more ?_ _))⟩
    · have h0' : 0 ≤ t := by omega
      have h2 : (env.length : Int) ≤ t := by omega
      go_enter Try.func22, Try.ntmps22
      go_wp2
      exact bodyPost_ret (v := .agg #[.int .i64 0, .int .i64 0, .string ⟨#[]⟩]) (by simp [results, Try.results22, go_sem]) rfl ⟨rfl, by (show Grew _ _; repeat (first | exact Grew.refl _ | refine Grew.alloc ?_ _ | refine Grew.drew ?_ | refine Grew.more ?_ _))⟩
/-- The closure of Val tells the part i. -/
theorem valc_any (x : Ex) (A : Option Addr) (k : Nat) (env : List (List Vl)) (E : Option Addr) (ke : Nat) (g2 g3 i : Nat) (hi : i < x.l.length) (W : World) (y : Vl) (f : Int) (b2 : Blok W g2 26 (exC x A k).toArray) (b3 : Blok W g3 27 #[.slice E env.length ke])
    (ra : ExsR (PRow W) A x.l)
    (hv : ∀ B j W', ExsR (PRow W) B x.l[i].l → Grew W W' → Gives Try.prog 18 #[exV x.l[i] B j, .slice E env.length ke] W' (.tuple #[vlV y, .int .i64 f])) :
    Gives Try.prog 88 #[.int .i64 i, .pointer (some ⟨g2, 0, none⟩), .pointer (some ⟨g3, 0, none⟩)] W (.tuple #[vlV y, .int .i64 f]) := by
  obtain ⟨b, o, B, j, rfl, hp, h9⟩ := exsR_nine ra hi
  have HV : Hid (∀ W', Grew W W' → Gives Try.prog 18 #[exV x.l[i] B j, .slice E env.length ke] W' (.tuple #[vlV y, .int .i64 f])) := Lib.hid fun W' hW => hv B j W' hp hW
  obtain ⟨q0, s0, s1, s2, s3, s4, s5, s6, s7, s8⟩ := blok9 b2
  have t0 := b3.cell 0
  have tl := b3.lt
  simp at t0
  clear hv hp ra b2 b3
  obtain ⟨z0, a0, a1, a2, a3, a4, a5, a6, a7, a8⟩ := h9
  generalize x.l[i] = p at *
  generalize x.l.length = n at *
  obtain ⟨W1, hW1⟩ : ∃ W1 : World, W1 = W.alloc (.cells #[.int .i64 0, .int .i64 0, .string ⟨#[]⟩] 23) := ⟨_, rfl⟩
  have HG1 : Hid (Grew W W1) := Lib.hid (by rw [hW1]; exact (Grew.refl W).alloc _)
  have HB1 : Hid (Blok W1 W.heap.size 23 #[.int .i64 0, .int .i64 0, .string ⟨#[]⟩]) := Lib.hid (by rw [hW1]; exact Blok.new _ _ _ _ rfl)
  unfold exV at HV
  unfold Gives vlV at *
  go_enter Try.func88, Try.ntmps88
  go_upto_region 1 with fail
  rw [← hW1]
  have T : ∀ (b o : Nat) (v : Value), b < W.heap.size → W.cell? ⟨b, o, none⟩ = some v → b < W1.heap.size ∧ W1.cell? ⟨b, o, none⟩ = some v := fun b o v hb hc => ⟨Nat.lt_of_lt_of_le hb HG1.out.size, by rw [HG1.out.cell hb]; exact hc⟩
  obtain ⟨q0', s6'⟩ := T _ _ _ q0 s8
  obtain ⟨tl', t0'⟩ := T _ _ _ tl t0
  obtain ⟨z0', a0'⟩ := T _ _ _ z0 a0
  obtain ⟨_, a1'⟩ := T _ _ _ z0 a1
  obtain ⟨_, a2'⟩ := T _ _ _ z0 a2
  obtain ⟨_, a3'⟩ := T _ _ _ z0 a3
  obtain ⟨_, a4'⟩ := T _ _ _ z0 a4
  obtain ⟨_, a5'⟩ := T _ _ _ z0 a5
  obtain ⟨_, a6'⟩ := T _ _ _ z0 a6
  obtain ⟨_, a7'⟩ := T _ _ _ z0 a7
  obtain ⟨_, a8'⟩ := T _ _ _ z0 a8
  obtain ⟨zl, z1, z2, z3, y1, y2, y3⟩ := val_in HB1.out
  clear T hW1 q0 s0 s1 s2 s3 s4 s5 s6 s7 s8 tl t0 z0 a0 a1 a2 a3 a4 a5 a6 a7 a8
  have HVx : Hid (∀ x, Gives Try.prog 18 #[.agg #[.int .i64 p.op, .string p.tab, .string p.name, .int .i64 p.t, .int .i64 p.c, .int .i64 p.vk, .int .i64 p.vi, .string p.vs, .slice B p.l.length j], .slice E env.length ke] (more W1 x) (.tuple #[.agg #[.int .i64 y.k, .int .i64 y.i, .string y.s], .int .i64 f])) := Lib.hid fun x => HV.out _ (HG1.out.more x)
  refine wp_region_more_tail 9 (by kernel_rfl) (by kernel_rfl) ?_
  simp only [List.take_succ_cons, List.take_zero, List.drop_succ_cons, List.drop_zero]
  repeat (go_big_quiet_step (((first | (go_at_call 18; exact (HVx.out _).within)))))
  refine wpQuiet_nil ?_
  rintro _ ⟨z, rfl⟩
  go_wp2
  have hb := fun z => (val_set HB1.out (.int .i64 y.k) (.int .i64 y.i) (.string y.s)).grew (Grew.more (Grew.refl _) z)
  have q1 := fun z => (val_in (hb z)).2.1
  have q2 := fun z => (val_in (hb z)).2.2.1
  have q3 := fun z => (val_in (hb z)).2.2.2.1
  exact bodyPost_ret (v := .tuple #[.agg #[.int .i64 y.k, .int .i64 y.i, .string y.s], .int .i64 f]) (by simp [results, Try.results88, go_sem, q1, q2, q3]) rfl ⟨rfl, (Grew.more (grew_set3 HG1.out (Nat.le_refl _) _ _ _) _)⟩
end Go.Proofs.Ytddambfniaiogaa
