/- The statement EvalTruthsSaid: for every input the law returns true, and each argument reads as it did. No condition beyond the row's own. -/
import Derived.Test.YtddambfniaiogaaTree11
import Derived.Test.YtddambfniaiogaaRowMuch
import Derived.Test.YtddambfniaiogaaTruth
import Derived.Test.YtddambfniaiogaaEval4
import Derived.Test.YtddambfniaiogaaTruth3
import Derived.Test.YtddambfniaiogaaTree10
import Derived.Test.YtddambfniaiogaaEx
import Derived.Test.YtddambfniaiogaaFrame2

/- Layer 8: any two lists of expressions, one by one the same. Condition: expressions that lie in memory that is there. -/
namespace Go.Proofs.Ytddambfniaiogaa
open Go.RowKit
attribute [local go_sem] more_cell more_frozen more_more more_setCell more_of_drew more_of_drewN lt_more le_more past_cell past_cell2 past_frozen past_frozen2 past_setCell past_setCell2 mid_cell mid_frozen mid_setCell
attribute [local go_sem ↓] Go.wp_at_zero Go.wp_at_succ

def RAllAt (w : World) (l m : List Ex) (i : Value) (wr : World) : Prop := ∃ j : Nat, j ≤ l.length ∧ i = .int .i64 j ∧ Grew w wr ∧ l.take j = m.take j
theorem rall_len (l l' : List Ex) (A B : Option Addr) (k j : Nat) (h : l.length ≠ l'.length) (w : World) :
    Gives Try.prog 74 #[.slice A l.length k, .slice B l'.length j] w (.bool false) := by
  have e1 : ((l.length : Int) != (l'.length : Int)) = true := by rw [bne_iff_ne]; omega
  unfold Gives
  clear h
  go_enter Try.func74, Try.ntmps74
  go_wp2
  go_ret
  exact ⟨rfl, by (show Grew _ _; repeat (first | exact Grew.refl _ | refine Grew.alloc ?_ _ | refine Grew.drew ?_ | refine Grew.more ?_ _))⟩
set_option maxHeartbeats 1000000 in
theorem rall_list (l l' : List Ex) (A B : Option Addr) (k j m : Nat) (hm : l.length = m) (hm' : l'.length = m) (hs : m ≤ 1000000) (t : Bool) (ht : t = true ↔ l = l') (hn : ∀ y ∈ l, y.nodes ≤ 1000000)
    (w : World) (ra : ExsR (PRow w) A l) (rb : ExsR (PRow w) B l') :
    Gives Try.prog 74 #[.slice A m k, .slice B m j] w (.bool t) := by
  have RA := Lib.hid ra
  have RB := Lib.hid rb
  have HT := Lib.hid ht
  have HI := Lib.hid hn
  have HM := Lib.hid hm
  have HM' := Lib.hid hm'
  clear ra rb ht hn hm hm'
  unfold Gives
  go_enter Try.func74, Try.ntmps74
  go_wp2
  go_loopw [5] (fun i wr => RAllAt w l l' i wr) (fun i _ => m - (intOf i).toNat)
  case atStart => exact ⟨0, Nat.zero_le _, rfl, by (show Grew _ _; repeat (first | exact Grew.refl _ | refine Grew.alloc ?_ _ | refine Grew.drew ?_ | refine Grew.more ?_ _)), rfl⟩
  case round =>
    obtain ⟨i, hi, rfl, hg, hk⟩ := hrel
    rw [HM.out] at hi
    have HG := Lib.hid hg
    have HK := Lib.hid hk
    clear hg hk
    by_cases h : i < m
    · have h1 : i < l.length := by rw [HM.out]; exact h
      have h2 : i < l'.length := by rw [HM'.out]; exact h
      obtain ⟨ba, oa, PA, ka, rfl, hpa, h9⟩ := exsR_nine RA.out h1
      obtain ⟨bb, ob, PB, kb, rfl, hpb, h9'⟩ := exsR_nine RB.out h2
      obtain ⟨t2, ht2⟩ := some_bool (l[i] = l'[i])
      have HC : Hid (∀ W, Grew w W → Gives Try.prog 48 #[exV l[i] PA ka, exV l'[i] PB kb] W (.bool t2)) := Lib.hid fun W hW => rsame_ex 1000000 (by omega) _ _ (HI.out _ (List.getElem_mem h1)) _ _ _ _ t2 ht2 W (hpa.grew hW) (hpb.grew hW)
      have HN : Hid (t2 = true → l.take (i + 1) = l'.take (i + 1)) := Lib.hid fun q => take_same HK.out h1 h2 (ht2.1 q)
      have HF : Hid (t2 = false → t = false) := Lib.hid fun q => not_true HT.out (by
        intro e
        subst e
        have := ht2.2 rfl
        rw [q] at this
        cases this)
      obtain ⟨p0, a0, a1, a2, a3, a4, a5, a6, a7, a8⟩ := h9.grew HG.out
      obtain ⟨p1, d0, d1, d2, d3, d4, d5, d6, d7, d8⟩ := h9'.grew HG.out
      clear h9 h9' hpa hpb ht2 HI HT HK
      generalize l[i] = x at *
      generalize l'[i] = y at *
      clear h1 h2
      unfold exV at HC
      go_wp2
      refine wp_region_more (by kernel_rfl) (by kernel_rfl) ?_
      repeat (go_big_quiet_step (((go_at_call 48; exact (HC.out _ (HG.out.more _)).within))))
      refine wpQuiet_nil ?_
      rintro _ ⟨z, rfl⟩
      cases t2
      · obtain rfl := HF.out rfl
        go_wp2
        go_ret
        exact ⟨rfl, (HG.out.more _)⟩
      · go_wp2
        exact ⟨⟨i + 1, by rw [HM.out]; omega, by go_num, HG.out.more _, HN.out rfl⟩, by simp only [intOf]; omega⟩
    · obtain rfl : i = m := by omega
      have ht : t = true := HT.out.2 (by
        have := HK.out
        rw [List.take_of_length_le (Nat.le_of_eq HM.out), List.take_of_length_le (Nat.le_of_eq HM'.out)] at this
        exact this)
      subst ht
      go_wp2
      go_ret
      exact ⟨rfl, HG.out⟩
/-- The document's SameAll. -/
theorem rall_any (l l' : List Ex) (A B : Option Addr) (k j : Nat) (hs : l.length ≤ 1000000) (t : Bool) (ht : t = true ↔ l = l') (hn : ∀ y ∈ l, y.nodes ≤ 1000000) (w : World) (ra : ExsR (PRow w) A l) (rb : ExsR (PRow w) B l') :
    Gives Try.prog 74 #[.slice A l.length k, .slice B l'.length j] w (.bool t) := by
  by_cases h : l.length = l'.length
  · rw [← h]
    exact rall_list l l' A B k j l.length rfl h.symm hs t ht hn w ra rb
  · have hf : t = false := not_true ht (fun e => h (by rw [e]))
    subst hf
    exact rall_len l l' A B k j h w
end Go.Proofs.Ytddambfniaiogaa

/- Layer 13: what is more than is asked of an environment. Condition: rows that lie in memory that is there. -/
namespace Go.Proofs.Ytddambfniaiogaa
open Go.RowKit
attribute [local go_sem] more_cell more_frozen more_more more_setCell more_of_drew more_of_drewN lt_more le_more past_cell past_cell2 past_frozen past_frozen2 past_setCell past_setCell2 mid_cell mid_frozen mid_setCell
attribute [local go_sem ↓] Go.wp_at_zero Go.wp_at_succ

def goodEnv (l : List (List Vl)) : Prop := l.length ≤ 60 ∧ (∀ r ∈ l, r.length ≤ 40) ∧ szRs l ≤ 2000
set_option maxHeartbeats 1000000 in
theorem much13_any (l : List (List Vl)) (hl : RwsOk l) (A : Option Addr) (k0 : Nat) (w : World) (h : RwsR (PRow w) A l) :
    Calls Try.prog 16 #[.slice A l.length k0] w (MuchR w (goodEnv l)) := by
  have HC := Lib.hid h
  have HO := Lib.hid hl
  have hlen := hl.1
  clear h hl
  go_enter Try.func16, Try.ntmps16
  go_wp2
  go_loopw [3, 4] (fun n i wr => Much4At w l n i wr) (fun _ i _ => l.length - (intOf i).toNat)
  case atStart => exact ⟨0, 0, Nat.zero_le _, rfl, rfl, by simp [szRs], by decide, by (show Grew _ _; repeat (first | exact Grew.refl _ | refine Grew.alloc ?_ _ | refine Grew.drew ?_ | refine Grew.more ?_ _)), by simp⟩
  case round =>
    obtain ⟨j, m0, hj, rfl, rfl, hm0, hm2, hg, ha⟩ := hrel
    have HG := Lib.hid hg
    have HA := Lib.hid ha
    have HM := Lib.hid hm0
    clear hg ha hm0
    by_cases h : j < l.length
    · by_cases h70 : j < 70
      · have h70' : (j : Int) < 70 := by omega
        obtain ⟨b, o, B, k2, rfl, hb, hc, hk, hv⟩ := rwsR_at (HC.out.grew HG.out) h
        have HV := Lib.hid hv
        have HS := Lib.hid (szRs_take h)
        have HN := Lib.hid (fun hx => take_all (P := fun r : List Vl => r.length ≤ 40) HA.out h hx)
        have HQ := Lib.hid (HO.out.2 _ (List.getElem_mem h)).2
        have hrl := (HO.out.2 _ (List.getElem_mem h)).1
        clear hv HA
        generalize l[j] = r at *
        obtain ⟨wo, rfl⟩ : ∃ wo : World, wo = wr := ⟨_, rfl⟩
        go_wp2
        go_loop [3, 5] (fun n i => In4At r m0 n i) (fun _ i => r.length - (intOf i).toNat)
        case atStart => exact ⟨0, m0, Nat.zero_le _, rfl, rfl, by simp [szR]⟩
        case round =>
          obtain ⟨q, m, hq, rfl, rfl, hm⟩ := hrel
          have HM2 := Lib.hid hm
          clear hm
          by_cases hqr : q < r.length
          · by_cases h50 : q < 50
            · have h50' : (q : Int) < 50 := by omega
              have hle : m ≤ 10000000000000000 := by
                have := szR_le HQ.out q
                have h3 : q * 140737488355329 ≤ 50 * 140737488355329 := Nat.mul_le_mul_right _ (by omega)
                have := HM2.out
                omega
              obtain ⟨b', o', rfl, hb', _, _, c2⟩ := vlsR_at HV.out hqr
              have hsz := (HQ.out _ (List.getElem_mem hqr)).2.2
              have HT := Lib.hid (szR_take hqr)
              generalize r[q] = v at *
              go_wp2
              exact ⟨⟨q + 1, m + 1 + v.s.size, by omega, by go_num, by go_num, by rw [HT.out, HM2.out]; omega⟩, by simp only [intOf]; omega⟩
            · have h50' : (50 : Int) ≤ q := by omega
              have hn' : (40 : Int) < r.length := by omega
              go_wp2
              go_ret
              exact muchR_true _ HG.out
          · obtain rfl : q = r.length := by omega
            have HM3 : Hid (m = m0 + szR r) := Lib.hid (by have := HM2.out; rwa [List.take_length] at this)
            by_cases hn : 40 < r.length
            · have hn' : (40 : Int) < r.length := by omega
              go_wp2
              go_ret
              exact muchR_true _ HG.out
            · have hn' : (r.length : Int) ≤ 40 := by omega
              by_cases h2k : 2000 < m
              · have h2k' : (2000 : Int) < m := by omega
                go_wp2
                go_ret
                exact muchR_true _ HG.out
              · have h2k' : (m : Int) ≤ 2000 := by omega
                go_wp2
                exact ⟨⟨j + 1, m, by omega, by go_num, rfl, by rw [HS.out, HM3.out, HM.out], by omega, HG.out, HN.out (by omega)⟩, by simp only [intOf]; omega⟩
      · have h70' : (70 : Int) ≤ j := by omega
        have h60 : (60 : Int) < l.length := by omega
        go_wp2
        go_ret
        exact muchR_true _ HG.out
    · obtain rfl : j = l.length := by omega
      have HA2 : Hid ((∀ r ∈ l, r.length ≤ 40) ∧ szRs l ≤ 2000) := Lib.hid (by
        have h1 := HA.out
        have h2 := HM.out
        rw [List.take_length] at h1 h2
        exact ⟨h1, by omega⟩)
      go_wp2
      go_ret
      exact muchR_dec (c := (60 : Int) < l.length) HG.out (fun hc => ⟨by omega, HA2.out⟩)
end Go.Proofs.Ytddambfniaiogaa

/- Layer 13: what is true, by the program. Condition: rows and expressions that lie in memory that is there. -/
namespace Go.Proofs.Ytddambfniaiogaa
open Go.RowKit
attribute [local go_sem] more_cell more_frozen more_more more_setCell more_of_drew more_of_drewN lt_more le_more past_cell past_cell2 past_frozen past_frozen2 past_setCell past_setCell2 mid_cell mid_frozen mid_setCell
attribute [local go_sem ↓] Go.wp_at_zero Go.wp_at_succ

set_option maxHeartbeats 1000000 in
/-- The closure of Truth tells the part i's value. -/
theorem truv_any (x : Ex) (A : Option Addr) (k : Nat) (env : List (List Vl)) (E : Option Addr) (ke : Nat) (g2 g3 i : Nat) (hi : i < x.l.length) (W : World) (y : Vl) (f : Int) (b2 : Blok W g2 26 (exC x A k).toArray) (b3 : Blok W g3 27 #[.slice E env.length ke])
    (ra : ExsR (PRow W) A x.l)
    (hv : ∀ B j W', ExsR (PRow W) B x.l[i].l → Grew W W' → Gives Try.prog 18 #[exV x.l[i] B j, .slice E env.length ke] W' (.tuple #[vlV y, .int .i64 f])) :
    Gives Try.prog 96 #[.int .i64 i, .pointer (some ⟨g2, 0, none⟩), .pointer (some ⟨g3, 0, none⟩)] W (.tuple #[vlV y, .int .i64 f]) := by
  obtain ⟨b, o, B, j, rfl, hp, h9⟩ := exsR_nine ra hi
  have HV : Hid (∀ W', Grew W W' → Gives Try.prog 18 #[exV x.l[i] B j, .slice E env.length ke] W' (.tuple #[vlV y, .int .i64 f])) := Lib.hid fun W' hW => hv B j W' hp hW
  obtain ⟨q0, s0, s1, s2, s3, s4, s5, s6, s7, s8⟩ := blok9 b2
  have t0 := b3.cell 0
  have tl := b3.lt
  simp at t0
  clear hv hp ra b2 b3
  obtain ⟨z0, a0, a1, a2, a3, a4, a5, a6, a7, a8⟩ := h9
  generalize x.l[i] = p at *
  generalize x.l.length = n at *
  obtain ⟨W1, hW1⟩ : ∃ W1 : World, W1 = W.alloc (.cells #[.int .i64 0, .int .i64 0, .string ⟨#[]⟩] 23) := ⟨_, rfl⟩
  have HG1 : Hid (Grew W W1) := Lib.hid (by rw [hW1]; exact (Grew.refl W).alloc _)
  have HB1 : Hid (Blok W1 W.heap.size 23 #[.int .i64 0, .int .i64 0, .string ⟨#[]⟩]) := Lib.hid (by rw [hW1]; exact Blok.new _ _ _ _ rfl)
  unfold exV at HV
  unfold Gives vlV at *
  go_enter Try.func96, Try.ntmps96
  go_upto_region 1 with fail
  rw [← hW1]
  have T : ∀ (b o : Nat) (v : Value), b < W.heap.size → W.cell? ⟨b, o, none⟩ = some v → b < W1.heap.size ∧ W1.cell? ⟨b, o, none⟩ = some v := fun b o v hb hc => ⟨Nat.lt_of_lt_of_le hb HG1.out.size, by rw [HG1.out.cell hb]; exact hc⟩
  obtain ⟨q0', s6'⟩ := T _ _ _ q0 s8
  obtain ⟨tl', t0'⟩ := T _ _ _ tl t0
  obtain ⟨z0', a0'⟩ := T _ _ _ z0 a0
  obtain ⟨_, a1'⟩ := T _ _ _ z0 a1
  obtain ⟨_, a2'⟩ := T _ _ _ z0 a2
  obtain ⟨_, a3'⟩ := T _ _ _ z0 a3
  obtain ⟨_, a4'⟩ := T _ _ _ z0 a4
  obtain ⟨_, a5'⟩ := T _ _ _ z0 a5
  obtain ⟨_, a6'⟩ := T _ _ _ z0 a6
  obtain ⟨_, a7'⟩ := T _ _ _ z0 a7
  obtain ⟨_, a8'⟩ := T _ _ _ z0 a8
  obtain ⟨zl, z1, z2, z3, y1, y2, y3⟩ := val_in HB1.out
  clear T hW1 q0 s0 s1 s2 s3 s4 s5 s6 s7 s8 tl t0 z0 a0 a1 a2 a3 a4 a5 a6 a7 a8
  have HVx : Hid (∀ x, Gives Try.prog 18 #[.agg #[.int .i64 p.op, .string p.tab, .string p.name, .int .i64 p.t, .int .i64 p.c, .int .i64 p.vk, .int .i64 p.vi, .string p.vs, .slice B p.l.length j], .slice E env.length ke] (more W1 x) (.tuple #[.agg #[.int .i64 y.k, .int .i64 y.i, .string y.s], .int .i64 f])) := Lib.hid fun x => HV.out _ (HG1.out.more x)
  refine wp_region_more_tail 9 (by kernel_rfl) (by kernel_rfl) ?_
  simp only [List.take_succ_cons, List.take_zero, List.drop_succ_cons, List.drop_zero]
  repeat (go_big_quiet_step (((first | (go_at_call 18; exact (HVx.out _).within)))))
  refine wpQuiet_nil ?_
  rintro _ ⟨z, rfl⟩
  go_wp2
  have hb := fun z => (val_set HB1.out (.int .i64 y.k) (.int .i64 y.i) (.string y.s)).grew (Grew.more (Grew.refl _) z)
  have q1 := fun z => (val_in (hb z)).2.1
  have q2 := fun z => (val_in (hb z)).2.2.1
  have q3 := fun z => (val_in (hb z)).2.2.2.1
  exact bodyPost_ret (v := .tuple #[.agg #[.int .i64 y.k, .int .i64 y.i, .string y.s], .int .i64 f]) (by simp [results, Try.results96, go_sem, q1, q2, q3]) rfl ⟨rfl, (Grew.more (grew_set3 HG1.out (Nat.le_refl _) _ _ _) _)⟩
set_option maxHeartbeats 1000000 in
/-- The closure of Truth tells the part i's truth. -/
theorem trut_any (x : Ex) (A : Option Addr) (k : Nat) (env : List (List Vl)) (E : Option Addr) (ke : Nat) (g2 g3 i : Nat) (hi : i < x.l.length) (W : World) (t : Int) (b2 : Blok W g2 26 (exC x A k).toArray) (b3 : Blok W g3 27 #[.slice E env.length ke])
    (ra : ExsR (PRow W) A x.l)
    (hv : ∀ B j W', ExsR (PRow W) B x.l[i].l → Grew W W' → Gives Try.prog 25 #[exV x.l[i] B j, .slice E env.length ke] W' (.int .i64 t)) :
    Gives Try.prog 97 #[.int .i64 i, .pointer (some ⟨g2, 0, none⟩), .pointer (some ⟨g3, 0, none⟩)] W (.int .i64 t) := by
  obtain ⟨b, o, B, j, rfl, hp, h9⟩ := exsR_nine ra hi
  have HV : Hid (∀ W', Grew W W' → Gives Try.prog 25 #[exV x.l[i] B j, .slice E env.length ke] W' (.int .i64 t)) := Lib.hid fun W' hW => hv B j W' hp hW
  obtain ⟨q0, s0, s1, s2, s3, s4, s5, s6, s7, s8⟩ := blok9 b2
  have t0 := b3.cell 0
  have tl := b3.lt
  simp at t0
  clear hv hp ra b2 b3
  obtain ⟨z0, a0, a1, a2, a3, a4, a5, a6, a7, a8⟩ := h9
  generalize x.l[i] = p at *
  generalize x.l.length = n at *
  unfold exV at HV
  unfold Gives at *
  go_enter Try.func97, Try.ntmps97
  go_upto_region 1 with fail
  have HVx : Hid (∀ x, Gives Try.prog 25 #[.agg #[.int .i64 p.op, .string p.tab, .string p.name, .int .i64 p.t, .int .i64 p.c, .int .i64 p.vk, .int .i64 p.vi, .string p.vs, .slice B p.l.length j], .slice E env.length ke] (more W x) (.int .i64 t)) := Lib.hid fun x => HV.out _ ((Grew.refl _).more x)
  refine wp_region_more_tail 7 (by kernel_rfl) (by kernel_rfl) ?_
  simp only [List.take_succ_cons, List.take_zero, List.drop_succ_cons, List.drop_zero]
  repeat (go_big_quiet_step (((first | (go_at_call 25; exact (HVx.out _).within)))))
  refine wpQuiet_nil ?_
  rintro _ ⟨z, rfl⟩
  go_wp2
  go_ret
  exact ⟨rfl, (Grew.refl _).more _⟩
set_option maxHeartbeats 1000000 in
set_option maxRecDepth 20000 in
theorem truthE_any (env : List (List Vl)) (he : RwsOk env) (E : Option Addr) (ke : Nat) : ∀ (n : Nat) (x : Ex), SizeOf.sizeOf x ≤ n → ExOk x → ∀ (A : Option Addr) (k : Nat) (w : World), ExsR (PRow w) A x.l → RwsR (PRow w) E env →
    Gives Try.prog 25 #[exV x A k, .slice E env.length ke] w (.int .i64 (evalT env x))
  | 0, x, hn, _, _, _, _, _, _ => by cases x; simp at hn
  | n + 1, x, hn, hx, A, k, w, ra, rb => by
    have ih := truthE_any env he E ke n
    obtain ⟨W0, hW0⟩ : ∃ W0, W0 = (w.alloc (.cells (exC x A k).toArray 26)).alloc (.cells #[.slice E env.length ke] 27) := ⟨_, rfl⟩
    have HG0 : Hid (Grew w W0) := Lib.hid (by rw [hW0]; exact ((Grew.refl w).alloc _).alloc _)
    have HX0 : Hid (Blok W0 w.heap.size 26 (exC x A k).toArray) := Lib.hid (by rw [hW0]; exact (Blok.new _ _ _ _ rfl).alloc _)
    have HE0 : Hid (Blok W0 (w.heap.size + 1) 27 #[.slice E env.length ke]) := Lib.hid (by rw [hW0]; exact Blok.new _ _ _ _ (by simp))
    have HPV : ∀ (i : Nat) (hi : i < x.l.length), ValC W0 w.heap.size (w.heap.size + 1) i (evalV env x.l[i]).1 (evalV env x.l[i]).2 := fun i hi W hW =>
      truv_any x A k env E ke _ _ i hi W _ _ (HX0.out.grew hW) (HE0.out.grew hW) (ra.grew (HG0.out.trans hW)) fun B j W' hp hg => valE_any env he E ke _ _ (Nat.le_refl _) (hx.part hi) B j W' (hp.grew hg) (rb.grew (HG0.out.trans (hW.trans hg)))
    have HPT : ∀ (i : Nat) (hi : i < x.l.length), TruC W0 w.heap.size (w.heap.size + 1) i (evalT env x.l[i]) := fun i hi W hW =>
      trut_any x A k env E ke _ _ i hi W _ (HX0.out.grew hW) (HE0.out.grew hW) (ra.grew (HG0.out.trans hW)) fun B j W' hp hg => ih _ (by
        have := size_part hi
        omega) (hx.part hi) B j W' (hp.grew hg) (rb.grew (HG0.out.trans (hW.trans hg)))
    have HS1 : Hid (x.l.length = 1 → Gives Try.prog 98 #[.int .i64 x.op, clV1 w.heap.size (w.heap.size + 1), clV2 w.heap.size (w.heap.size + 1)] W0 (.int .i64 (evalT env x))) := Lib.hid fun hl => by
      rw [evalT_one hl]
      exact one_any x.op _ _ W0 _ _ _ (HPV 0 (by omega)) (HPT 0 (by omega))
    have HS2 : Hid (x.l.length = 2 → Gives Try.prog 99 #[.int .i64 x.op, clV1 w.heap.size (w.heap.size + 1), clV2 w.heap.size (w.heap.size + 1)] W0 (.int .i64 (evalT env x))) := Lib.hid fun hl => by
      rw [evalT_two hl]
      exact two_any x.op _ _ W0 _ _ _ _ _ _ (HPV 0 (by omega)) (HPV 1 (by omega)) (HPT 0 (by omega)) (HPT 1 (by omega))
    clear HPV HPT ih ra rb
    obtain ⟨q0, s0, s1, s2, s3, s4, s5, s6, s7, s8⟩ := blok9 HX0.out
    clear HX0 HE0 hx hn
    by_cases h1 : x.l.length = 1
    · have HS := Lib.hid (HS1.out h1)
      have e1 : ((x.l.length : Int) == 1) = true := by rw [h1]; rfl
      clear HS1 HS2 h1
      unfold exV
      unfold clV1 clV2 at HS
      unfold Gives
      unfold exC at hW0
      generalize evalT env x = r at *
      generalize x.l.length = m at *
      generalize env.length = el at *
      go_enter Try.func25, Try.ntmps25
      go_upto_region 1 with fail
      rw [← hW0]
      clear hW0
      go_wp2_with (first
        | (go_at_call 98; (with_reducible refine (HS.out).grows.mono ?_); rintro e w4 ⟨rfl, hg4⟩; have HG4 : Hid (Grew w w4) := Lib.hid (HG0.out.trans hg4); clear hg4))
      go_ret
      exact ⟨rfl, HG4.out⟩
    · have e1 : ((x.l.length : Int) == 1) = false := by rw [beq_eq_false_iff_ne]; omega
      by_cases h2 : x.l.length = 2
      · have HS := Lib.hid (HS2.out h2)
        have e2 : ((x.l.length : Int) == 2) = true := by rw [h2]; rfl
        clear HS1 HS2 h1 h2
        unfold exV
        unfold clV1 clV2 at HS
        unfold Gives
        unfold exC at hW0
        generalize evalT env x = r at *
        generalize x.l.length = m at *
        generalize env.length = el at *
        go_enter Try.func25, Try.ntmps25
        go_upto_region 1 with fail
        rw [← hW0]
        clear hW0
        go_wp2_with (first
          | (go_at_call 99; (with_reducible refine (HS.out).grows.mono ?_); rintro e w4 ⟨rfl, hg4⟩; have HG4 : Hid (Grew w w4) := Lib.hid (HG0.out.trans hg4); clear hg4))
        go_ret
        exact ⟨rfl, HG4.out⟩
      · rw [evalT_else h1 h2]
        have e2 : ((x.l.length : Int) == 2) = false := by rw [beq_eq_false_iff_ne]; omega
        clear HS1 HS2 h1 h2
        unfold exV Gives
        unfold exC at hW0
        generalize x.l.length = m at *
        generalize env.length = el at *
        go_enter Try.func25, Try.ntmps25
        go_upto_region 1 with fail
        rw [← hW0]
        clear hW0
        go_wp2
        go_ret
        exact ⟨rfl, HG0.out⟩
end Go.Proofs.Ytddambfniaiogaa

/- Layer 13: the page's example, and the place of a code. No condition. -/
namespace Go.Proofs.Ytddambfniaiogaa
open Go.RowKit
attribute [local go_sem] more_cell more_frozen more_more more_setCell more_of_drew more_of_drewN lt_more le_more past_cell past_cell2 past_frozen past_frozen2 past_setCell past_setCell2 mid_cell mid_frozen mid_setCell
attribute [local go_sem ↓] Go.wp_at_zero Go.wp_at_succ

theorem code13_any (f : Int) (w : World) : Gives Try.prog 20 #[.int .i64 f] w (.int .i64 f) := by
  unfold Gives
  go_enter Try.func20, Try.ntmps20
  go_wp2
  go_ret
  exact ⟨rfl, by (show Grew _ _; repeat (first | exact Grew.refl _ | refine Grew.alloc ?_ _ | refine Grew.drew ?_ | refine Grew.more ?_ _))⟩
def leafE (op : Int) : Ex := .mk op es es 0 0 0 0 es []
def live13E : Ex := .mk 1 es es 0 0 0 0 es [leafE 15, leafE 16]
def live13N : Ex := .mk 12 es es 0 0 0 0 es [live13E]
def live13R : List (List Vl) := [[⟨1, 7, es⟩]]
theorem es_small : es.size ≤ 140737488355328 := by show (0 : Nat) ≤ _; omega
theorem leaf_ok (op : Int) (h : (Lit.int .i64 op).wf = true) : ExOk (leafE op) :=
  .mk _ h es_small es_small (show (Lit.int .i64 0).wf = true by decide) (show (Lit.int .i64 0).wf = true by decide) ⟨show (Lit.int .i64 0).wf = true by decide, show (Lit.int .i64 0).wf = true by decide, es_small⟩ (by show (0 : Nat) ≤ _; omega) (fun y hy => by cases hy)
theorem live13E_ok : ExOk live13E :=
  .mk _ (by decide) es_small es_small (by decide) (by decide) ⟨by decide, by decide, es_small⟩ (by show (2 : Nat) ≤ _; omega) (fun y hy => by
    simp only [live13E, Ex.l, List.mem_cons, List.not_mem_nil, or_false] at hy
    rcases hy with rfl | rfl
    · exact leaf_ok 15 (by decide)
    · exact leaf_ok 16 (by decide))
theorem live13N_ok : ExOk live13N :=
  .mk _ (by decide) es_small es_small (by decide) (by decide) ⟨by decide, by decide, es_small⟩ (by show (1 : Nat) ≤ _; omega) (fun y hy => by
    simp only [live13N, Ex.l, List.mem_cons, List.not_mem_nil, or_false] at hy
    subst hy
    exact live13E_ok)
theorem live13R_ok : RwsOk live13R := ⟨by show (1 : Nat) ≤ _; omega, fun r hr => by
  simp only [live13R, List.mem_cons, List.not_mem_nil, or_false] at hr
  subst hr
  refine ⟨by show (1 : Nat) ≤ _; omega, fun v hv => ?_⟩
  simp only [List.mem_cons, List.not_mem_nil, or_false] at hv
  subst hv
  exact ⟨by decide, by decide, es_small⟩⟩
theorem live13_a : evalV live13R (leafE 15) = (⟨1, 7, es⟩, 0) := by
  rw [evalV_col (by rfl)]
  rfl
theorem live13_b : evalV live13R (leafE 16) = (⟨0, 0, es⟩, 0) := by
  rw [evalV_val (by rfl)]
  rfl
theorem live13_e : evalT live13R live13E = 2 := by
  rw [evalT_two (by rfl)]
  show twoT 1 (evalV live13R (leafE 15)) (evalV live13R (leafE 16)) _ _ = 2
  rw [live13_a, live13_b]
  rfl
theorem live13_n : evalT live13R live13N = 2 := by
  rw [evalT_one (by rfl)]
  show oneT 12 _ (evalT live13R live13E) = 2
  rw [live13_e]
  rfl
theorem live13_parts {W : World} {g : Nat} (h : Row W (some ⟨g, 0, none⟩) (exC (leafE 15) none 0 ++ exC (leafE 16) none 0)) : ExsR (PRow W) (some ⟨g, 0, none⟩) live13E.l :=
  ⟨[exC (leafE 15) none 0, exC (leafE 16) none 0], listR_append (l := [leafE 15]) (listR_single (x := leafE 15) (exs_nil W) 0) (listR_single (x := leafE 16) (exs_nil W) 0), by simpa [PRow] using h⟩
theorem live13_one {W : World} {g : Nat} {A : Option Addr} {k : Nat} (h : Row W (some ⟨g, 0, none⟩) (exC live13E A k)) (ra : ExsR (PRow W) A live13E.l) : ExsR (PRow W) (some ⟨g, 0, none⟩) live13N.l :=
  ⟨[exC live13E A k], listR_single (x := live13E) ra k, by simpa [PRow] using h⟩
theorem live13_rows {W : World} {g b : Nat} (h : Row W (some ⟨g, 0, none⟩) [.slice (some ⟨b, 0, none⟩) 1 1]) (h2 : Row W (some ⟨b, 0, none⟩) [.int .i64 1, .int .i64 7, .string es]) : RwsR (PRow W) (some ⟨g, 0, none⟩) live13R :=
  ⟨[[.slice (some ⟨b, 0, none⟩) 1 1]], ⟨rfl, fun i x cs hi hd => by
    rcases i with _ | i
    · simp only [live13R, List.getElem?_cons_zero, Option.some.injEq] at hi hd
      subst hi hd
      exact ⟨⟨some ⟨b, 0, none⟩, 1, rfl, by simp, [[.int .i64 1, .int .i64 7, .string es]], ⟨rfl, fun j v ds hj hk => by
        rcases j with _ | j
        · simp only [List.getElem?_cons_zero, Option.some.injEq] at hj hk
          subst hj hk
          exact ⟨rfl, rfl⟩
        · simp at hj⟩, by simpa [PRow] using h2⟩, rfl⟩
    · simp [live13R] at hi⟩, by simpa [PRow] using h⟩
set_option maxHeartbeats 4000000 in
set_option maxRecDepth 100000 in
theorem live13_any (w : World) : Gives Try.prog 17 #[] w (.bool true) := by
  obtain ⟨W2, hW2⟩ : ∃ W2, W2 = (w.alloc (.cells #[.int .i64 15, .string ⟨#[]⟩, .string ⟨#[]⟩, .int .i64 0, .int .i64 0, .int .i64 0, .int .i64 0, .string ⟨#[]⟩, .slice none 0 0, .int .i64 16, .string ⟨#[]⟩, .string ⟨#[]⟩, .int .i64 0, .int .i64 0, .int .i64 0, .int .i64 0, .string ⟨#[]⟩, .slice none 0 0] 26)).alloc (.cells #[.int .i64 1, .string ⟨#[]⟩, .string ⟨#[]⟩, .int .i64 0, .int .i64 0, .int .i64 0, .int .i64 0, .string ⟨#[]⟩, .slice (some ⟨w.heap.size, 0, none⟩) 2 2] 26) := ⟨_, rfl⟩
  have HG2 : Hid (Grew w W2) := Lib.hid (by rw [hW2]; exact ((Grew.refl w).alloc _).alloc _)
  have HP : Hid (∀ W, Grew W2 W → ExsR (PRow W) (some ⟨w.heap.size, 0, none⟩) live13E.l) := Lib.hid fun W hW => live13_parts (Row.grew (by rw [hW2]; exact row_alloc (row_new w _ _ _ rfl) _ : Row W2 _ _) hW)
  have HX : Hid (∀ W, Grew W2 W → Blok W (w.heap.size + 1) 26 (exC live13E (some ⟨w.heap.size, 0, none⟩) 2).toArray) := Lib.hid fun W hW => Blok.grew (by rw [hW2]; exact Blok.new _ _ _ _ (by simp) : Blok W2 _ _ _) hW
  obtain ⟨W3, hW3⟩ : ∃ W3, W3 = (W2.alloc (.cells #[.int .i64 1, .int .i64 7, .string ⟨#[]⟩] 23)).alloc (.cells #[.slice (some ⟨W2.heap.size, 0, none⟩) 1 1] 46) := ⟨_, rfl⟩
  have HG3 : Hid (Grew W2 W3) := Lib.hid (by rw [hW3]; exact ((Grew.refl _).alloc _).alloc _)
  have HR : Hid (∀ W, Grew W3 W → RwsR (PRow W) (some ⟨W2.heap.size + 1, 0, none⟩) live13R) := Lib.hid fun W hW => live13_rows (Row.grew (by rw [hW3]; exact row_new _ _ _ _ (by simp) : Row W3 _ _) hW) (Row.grew (by rw [hW3]; exact row_alloc (row_new _ _ _ _ rfl) _ : Row W3 _ _) hW)
  obtain ⟨gp, hgp⟩ : ∃ gp, w.heap.size = gp := ⟨_, rfl⟩
  obtain ⟨gr, hgr⟩ : ∃ gr, W2.heap.size = gr := ⟨_, rfl⟩
  have HV : Hid (∀ W, Grew W3 W → Gives Try.prog 18 #[.agg #[.int .i64 15, .string ⟨#[]⟩, .string ⟨#[]⟩, .int .i64 0, .int .i64 0, .int .i64 0, .int .i64 0, .string ⟨#[]⟩, .slice none 0 0], .slice (some ⟨gr + 1, 0, none⟩) 1 1] W (.tuple #[.agg #[.int .i64 1, .int .i64 7, .string ⟨#[]⟩], .int .i64 0])) := Lib.hid fun W hW => by
    have h := valE_any live13R live13R_ok (some ⟨gr + 1, 0, none⟩) 1 _ (leafE 15) (Nat.le_refl _) (leaf_ok 15 (by decide)) none 0 W (exs_nil W) (hgr ▸ HR.out W hW)
    rw [live13_a] at h
    exact h
  have HT : Hid (∀ W, Grew W3 W → Gives Try.prog 25 #[.agg #[.int .i64 1, .string ⟨#[]⟩, .string ⟨#[]⟩, .int .i64 0, .int .i64 0, .int .i64 0, .int .i64 0, .string ⟨#[]⟩, .slice (some ⟨gp, 0, none⟩) 2 2], .slice (some ⟨gr + 1, 0, none⟩) 1 1] W (.int .i64 2)) := Lib.hid fun W hW => by
    have h := truthE_any live13R live13R_ok (some ⟨gr + 1, 0, none⟩) 1 _ live13E (Nat.le_refl _) live13E_ok (some ⟨gp, 0, none⟩) 2 W (hgp ▸ HP.out W (HG3.out.trans hW)) (hgr ▸ HR.out W hW)
    rw [live13_e] at h
    exact h
  have HN : Hid (∀ W, Grew W3 W → Gives Try.prog 25 #[.agg #[.int .i64 12, .string ⟨#[]⟩, .string ⟨#[]⟩, .int .i64 0, .int .i64 0, .int .i64 0, .int .i64 0, .string ⟨#[]⟩, .slice (some ⟨W.heap.size, 0, none⟩) 1 1], .slice (some ⟨gr + 1, 0, none⟩) 1 1] (W.alloc (.cells #[.int .i64 1, .string ⟨#[]⟩, .string ⟨#[]⟩, .int .i64 0, .int .i64 0, .int .i64 0, .int .i64 0, .string ⟨#[]⟩, .slice (some ⟨gp, 0, none⟩) 2 2] 26)) (.int .i64 2)) := Lib.hid fun W hW => by
    have hg : Grew W3 (W.alloc (.cells #[.int .i64 1, .string ⟨#[]⟩, .string ⟨#[]⟩, .int .i64 0, .int .i64 0, .int .i64 0, .int .i64 0, .string ⟨#[]⟩, .slice (some ⟨gp, 0, none⟩) 2 2] 26)) := hW.alloc _
    have h := truthE_any live13R live13R_ok (some ⟨gr + 1, 0, none⟩) 1 _ live13N (Nat.le_refl _) live13N_ok (some ⟨W.heap.size, 0, none⟩) 1 _ (live13_one (A := some ⟨gp, 0, none⟩) (k := 2) (row_new W _ _ _ rfl) (hgp ▸ HP.out _ (HG3.out.trans hg))) (hgr ▸ HR.out _ hg)
    rw [live13_n] at h
    exact h
  have HGP := Lib.hid hgp
  have HGR := Lib.hid hgr
  clear HR HP hgp hgr
  unfold Gives
  go_enter Try.func17, Try.ntmps17
  go_upto_region 2 with fail
  rw [← hW2]
  clear hW2
  rw [HGP.out] at HX ⊢
  clear HGP
  go_upto_region 3 with fail
  rw [← hW3]
  clear hW3
  rw [HGR.out] at ⊢
  clear HGR
  go_upto_region 4 with (go_at_call 18; (with_reducible refine (HV.out _ (Grew.refl _)).grows.mono ?_); rintro e w4 ⟨rfl, hg4⟩; have HG4 := Lib.hid hg4; clear hg4)
  obtain ⟨W4, hW4⟩ : ∃ W4, W4 = w4.alloc (.cells #[.int .i64 1, .int .i64 7, .string ⟨#[]⟩] 23) := ⟨_, rfl⟩
  have HG4 : Hid (Grew W3 W4) := Lib.hid (by rw [hW4]; exact HG4.out.alloc _)
  have HB4 : Hid (Blok W4 w4.heap.size 23 #[.int .i64 1, .int .i64 7, .string ⟨#[]⟩]) := Lib.hid (by rw [hW4]; exact Blok.new _ _ _ _ rfl)
  rw [← hW4]
  clear hW4 HV
  generalize w4.heap.size = g4 at *
  obtain ⟨la, a0, a1, a2, a3, a4, a5, a6, a7, a8⟩ := blok9c (HX.out _ (HG3.out.trans HG4.out))
  go_wp2_with fail
  refine (HT.out _ HG4.out).grows.mono ?_
  rintro e w5 ⟨rfl, hg5⟩
  have HG5 := Lib.hid (HG4.out.trans hg5)
  have HB5 := Lib.hid (HB4.out.grew hg5)
  clear hg5 HB4 HT la a0 a1 a2 a3 a4 a5 a6 a7 a8
  obtain ⟨la, a0, a1, a2, a3, a4, a5, a6, a7, a8⟩ := blok9c (HX.out _ (HG3.out.trans HG5.out))
  go_wp2_with fail
  refine (HN.out _ HG5.out).grows.mono ?_
  rintro e w6 ⟨rfl, hg6⟩
  have HG6 := Lib.hid (HG5.out.trans ((Grew.alloc (Grew.refl _) _).trans hg6))
  obtain ⟨p1, c0, c1, c2, d0, d1, d2⟩ := val_in (HB5.out.grew ((Grew.alloc (Grew.refl _) _).trans hg6))
  clear hg6 HN la a0 a1 a2 a3 a4 a5 a6 a7 a8
  go_wp2_with (go_at_call 20; (with_reducible refine (code13_any _ _).grows.mono ?_); rintro e w7 ⟨rfl, hg7⟩; have HG7 := Lib.hid (HG6.out.trans hg7); clear hg7)
  go_ret
  exact ⟨rfl, HG2.out.trans (HG3.out.trans HG7.out)⟩
end Go.Proofs.Ytddambfniaiogaa

/- Queries, as they lie in memory, and as they come in. No condition. -/
namespace Go.Proofs.Ytddambfniaiogaa
open Go.RowKit Go.ChangeShapes Go.WideShapes Go.ChangeAt

/-- One table that is read from: how it is joined, its name, its short name, on what. -/
structure Fr where
  join : Int
  table : ByteArray
  short : ByteArray
  on : Ex
instance fr_some : Inhabited Fr := ⟨⟨0, ByteArray.empty, ByteArray.empty, default⟩⟩
def FrR (R : Rw) (x : Fr) (cs : List Value) : Prop := ∃ A k, cs = .int .i64 x.join :: .string x.table :: .string x.short :: exC x.on A k ∧ ExsR R A x.on.l
def FrsR (R : Rw) (A : Option Addr) (l : List Fr) : Prop := ∃ css, ListR (FrR R) 12 l css ∧ R 83 A css.flatten
theorem FrR.grew {w w' : World} {x : Fr} {cs : List Value} (h : FrR (PRow w) x cs) (g : Grew w w') : FrR (PRow w') x cs := by
  obtain ⟨A, k, h1, h2⟩ := h
  exact ⟨A, k, h1, h2.grew g⟩
theorem FrsR.grew {w w' : World} {A : Option Addr} {l : List Fr} (h : FrsR (PRow w) A l) (g : Grew w w') : FrsR (PRow w') A l := by
  obtain ⟨css, h1, h2⟩ := h
  exact ⟨css, h1.map fun x cs hx => hx.grew g, Row.grew h2 g⟩
/-- A query. -/
structure Qy where
  items : List Ex
  src : List Fr
  wh : Ex
  group : List Ex
def QyR (R : Rw) (q : Qy) (cs : List Value) : Prop := ∃ A k B j C c D d, cs = .slice A q.items.length k :: .slice B q.src.length j :: (exC q.wh C c ++ [.slice D q.group.length d]) ∧ ExsR R A q.items ∧ FrsR R B q.src ∧ ExsR R C q.wh.l ∧ ExsR R D q.group
/-- One part of the sources, in memory: its twelve cells. -/
theorem frsR_at {w : World} {A : Option Addr} {l : List Fr} (h : FrsR (PRow w) A l) {i : Nat} (hi : i < l.length) :
    ∃ b o B k, A = some ⟨b, o, none⟩ ∧ ExsR (PRow w) B l[i].on.l ∧ At9 w b (o + i * 12 + 3) l[i].on B k ∧ w.cell? ⟨b, o + i * 12, none⟩ = some (.int .i64 l[i].join) ∧ w.cell? ⟨b, o + i * 12 + 1, none⟩ = some (.string l[i].table) ∧ w.cell? ⟨b, o + i * 12 + 2, none⟩ = some (.string l[i].short) := by
  obtain ⟨css, h1, h2⟩ := h
  obtain ⟨b, o, cs, hA, hb, hr, _, hc⟩ := h1.at_ h2 (by decide) hi
  obtain ⟨B, k, rfl, hp⟩ := hr
  have hc' : ∀ j u, (Value.int .i64 l[i].join :: .string l[i].table :: .string l[i].short :: exC l[i].on B k)[j]? = some u → w.cell? ⟨b, o + i * 12 + j, none⟩ = some u := fun j u hu => by rw [Nat.add_assoc]; exact hc j u hu
  exact ⟨b, o, B, k, hA, hp, ⟨hb, hc' 3 _ rfl, hc' 4 _ rfl, hc' 5 _ rfl, hc' 6 _ rfl, hc' 7 _ rfl, hc' 8 _ rfl, hc' 9 _ rfl, hc' 10 _ rfl, hc' 11 _ rfl⟩, hc' 0 _ rfl, hc' 1 _ rfl, hc' 2 _ rfl⟩
section
variable {H : Type} {enc : TypeId × Value → H} {W : World}
theorem rd_exs : Rd enc Try.prog W 24 1 (fun (l : List Ex) cs => ∃ A c, cs = [.slice A l.length c] ∧ ExsR (PRow W) A l) :=
  rd_map (rd_slice Try.underlying24 (by kernel_rfl) (by decide) rd_ex) fun l cs ⟨A, c, css, h1, _, h3, h4⟩ => ⟨A, c, h1, css, h3, h4⟩
theorem rd_from : Rd enc Try.prog W 83 12 (fun (x : Fr) cs => FrR (PRow W) x cs) :=
  ⟨by kernel_rfl, fun n cs y hl h => by
    have ri : Rd enc Try.prog W 3 1 (fun (x : Int) cs => cs = [.int .i64 x] ∧ (Lit.int .i64 x).wf = true) := rd_int Try.underlying3 (by kernel_rfl)
    have rs : Rd enc Try.prog W 9 1 (fun (x : ByteArray) cs => cs = [.string x] ∧ x.size ≤ maxLen) := rd_str Try.underlying9 (by kernel_rfl)
    obtain ⟨join, h0, _⟩ := rd_part (i := 0) (o := 0) Try.underlying83 rfl rfl ri (by rw [hl]; decide) h
    obtain ⟨table, h1, _⟩ := rd_part (i := 1) (o := 1) Try.underlying83 rfl rfl rs (by rw [hl]; decide) h
    obtain ⟨short, h2, _⟩ := rd_part (i := 2) (o := 2) Try.underlying83 rfl rfl rs (by rw [hl]; decide) h
    obtain ⟨on, h3⟩ := rd_part (i := 3) (o := 3) Try.underlying83 rfl rfl rd_ex (by rw [hl]; decide) h
    obtain ⟨A, k, h4, h5⟩ := h3.parts
    match cs, hl with
    | a :: b :: c :: rest, hl =>
      have hr : rest.length = 9 := by simpa using hl
      simp at h0 h1 h2
      subst h0 h1 h2
      have h6 : rest = exC on A k := by
        rw [← h4]
        simp [List.take_of_length_le (Nat.le_of_eq hr)]
      exact ⟨⟨join, table, short, on⟩, A, k, by rw [h6], h5⟩⟩
theorem rd_froms : Rd enc Try.prog W 40 1 (fun (l : List Fr) cs => ∃ A c, cs = [.slice A l.length c] ∧ FrsR (PRow W) A l) :=
  rd_map (rd_slice Try.underlying40 (by kernel_rfl) (by decide) rd_from) fun l cs ⟨A, c, css, h1, _, h3, h4⟩ => ⟨A, c, h1, css, h3, h4⟩
theorem rd_query : Rd enc Try.prog W 42 12 (fun (q : Qy) cs => QyR (PRow W) q cs) :=
  ⟨by kernel_rfl, fun n cs y hl h => by
    obtain ⟨items, A, k, h0, r0⟩ := rd_part (i := 0) (o := 0) Try.underlying42 rfl rfl rd_exs (by rw [hl]; decide) h
    obtain ⟨src, B, j, h1, r1⟩ := rd_part (i := 1) (o := 1) Try.underlying42 rfl rfl rd_froms (by rw [hl]; decide) h
    obtain ⟨wh, h2⟩ := rd_part (i := 2) (o := 2) Try.underlying42 rfl rfl rd_ex (by rw [hl]; decide) h
    obtain ⟨group, D, d, h3, r3⟩ := rd_part (i := 3) (o := 11) Try.underlying42 rfl rfl rd_exs (by rw [hl]; decide) h
    obtain ⟨C, c, h4, r2⟩ := h2.parts
    match cs, hl with
    | [a, b, e0, e1, e2, e3, e4, e5, e6, e7, e8, f], _ =>
      simp at h0 h1 h3
      subst h0 h1 h3
      have h6 : [e0, e1, e2, e3, e4, e5, e6, e7, e8] = exC wh C c := by
        rw [← h4]
        rfl
      exact ⟨⟨items, src, wh, group⟩, A, k, B, j, C, c, D, d, by rw [← h6]; rfl, r0, r1, r2, r3⟩⟩
end
end Go.Proofs.Ytddambfniaiogaa

/- Layer 8: sources that are the same. Condition: expressions that lie in memory that is there. -/
namespace Go.Proofs.Ytddambfniaiogaa
open Go.RowKit
attribute [local go_sem] more_cell more_frozen more_more more_setCell more_of_drew more_of_drewN lt_more le_more past_cell past_cell2 past_frozen past_frozen2 past_setCell past_setCell2 mid_cell mid_frozen mid_setCell
attribute [local go_sem ↓] Go.wp_at_zero Go.wp_at_succ

def frV (x : Fr) (A : Option Addr) (k : Nat) : Value := .agg #[.int .i64 x.join, .string x.table, .string x.short, .int .i64 x.on.op, .string x.on.tab, .string x.on.name, .int .i64 x.on.t, .int .i64 x.on.c, .int .i64 x.on.vk, .int .i64 x.on.vi, .string x.on.vs, .slice A x.on.l.length k]
theorem fr_same (x y : Fr) : x = y ↔ x.join = y.join ∧ x.table = y.table ∧ x.short = y.short ∧ x.on = y.on := by
  constructor
  · intro h; subst h; exact ⟨rfl, rfl, rfl, rfl⟩
  · intro ⟨h0, h1, h2, h3⟩
    cases x; cases y
    simp only at h0 h1 h2 h3
    subst h0 h1 h2 h3
    rfl
theorem bytes_beq (a b : ByteArray) (h : a = b) : (a.toList == b.toList) = true := by subst h; exact beq_self_eq_true _
theorem bytes_bne (a b : ByteArray) (h : ¬ a = b) : (a.toList == b.toList) = false := by rw [beq_eq_false_iff_ne]; exact fun e => h (bytes_ext e)
end Go.Proofs.Ytddambfniaiogaa

/- Layer 8: sources that are the same, one by one. Condition: expressions that lie in memory that is there. -/
namespace Go.Proofs.Ytddambfniaiogaa
open Go.RowKit
attribute [local go_sem] more_cell more_frozen more_more more_setCell more_of_drew more_of_drewN lt_more le_more past_cell past_cell2 past_frozen past_frozen2 past_setCell past_setCell2 mid_cell mid_frozen mid_setCell
attribute [local go_sem ↓] Go.wp_at_zero Go.wp_at_succ
def EqFr (w : World) (l m : List Fr) (i : Value) (wr : World) : Prop := ∃ j : Nat, j ≤ l.length ∧ i = .int .i64 j ∧ Grew w wr ∧ l.take j = m.take j
theorem frsR_all {w : World} {A : Option Addr} {l : List Fr} (h : FrsR (PRow w) A l) {i : Nat} (hi : i < l.length) :
    ∃ b o B k, A = some ⟨b, o, none⟩ ∧ ExsR (PRow w) B l[i].on.l ∧ b < w.heap.size ∧ ∀ j u, (Value.int .i64 l[i].join :: .string l[i].table :: .string l[i].short :: exC l[i].on B k)[j]? = some u → w.cell? ⟨b, o + i * 12 + j, none⟩ = some u := by
  obtain ⟨css, h1, h2⟩ := h
  obtain ⟨b, o, cs, hA, hb, hr, _, hc⟩ := h1.at_ h2 (by decide) hi
  obtain ⟨B, k, rfl, hp⟩ := hr
  exact ⟨b, o, B, k, hA, hp, hb, fun j u hu => by rw [Nat.add_assoc]; exact hc j u hu⟩
end Go.Proofs.Ytddambfniaiogaa

/- Layer 8: what queries are more than is asked. Condition: a query that lies in memory that is there. -/
namespace Go.Proofs.Ytddambfniaiogaa
open Go.RowKit
attribute [local go_sem] more_cell more_frozen more_more more_setCell more_of_drew more_of_drewN lt_more le_more past_cell past_cell2 past_frozen past_frozen2 past_setCell past_setCell2 mid_cell mid_frozen mid_setCell
attribute [local go_sem ↓] Go.wp_at_zero Go.wp_at_succ

/-- No more than is asked of queries. -/
structure goodQ (q : Qy) : Prop where
  items : q.items.length ≤ 20
  src : q.src.length ≤ 12
  group : q.group.length ≤ 12
  wh : q.wh.nodes ≤ 200
  item : ∀ x ∈ q.items, x.nodes ≤ 200
  one : ∀ x ∈ q.group, x.nodes ≤ 200
  on : ∀ x ∈ q.src, x.on.nodes ≤ 200
/-- The cells of a query. -/
def qyC (it : List Ex) (sr : List Fr) (wh : Ex) (gr : List Ex) (A : Option Addr) (k : Nat) (B : Option Addr) (j : Nat) (C : Option Addr) (c : Nat) (D : Option Addr) (d : Nat) : Array Value :=
  #[.slice A it.length k, .slice B sr.length j, .int .i64 wh.op, .string wh.tab, .string wh.name, .int .i64 wh.t, .int .i64 wh.c, .int .i64 wh.vk, .int .i64 wh.vi, .string wh.vs, .slice C wh.l.length c, .slice D gr.length d]
structure At12 (w : World) (g : Nat) (x : Ex) (v0 v1 v10 v11 : Value) : Prop where
  lt : g < w.heap.size
  a0 : w.cell? ⟨g, 0, none⟩ = some v0
  a1 : w.cell? ⟨g, 1, none⟩ = some v1
  a2 : w.cell? ⟨g, 2, none⟩ = some (.int .i64 x.op)
  a3 : w.cell? ⟨g, 3, none⟩ = some (.string x.tab)
  a4 : w.cell? ⟨g, 4, none⟩ = some (.string x.name)
  a5 : w.cell? ⟨g, 5, none⟩ = some (.int .i64 x.t)
  a6 : w.cell? ⟨g, 6, none⟩ = some (.int .i64 x.c)
  a7 : w.cell? ⟨g, 7, none⟩ = some (.int .i64 x.vk)
  a8 : w.cell? ⟨g, 8, none⟩ = some (.int .i64 x.vi)
  a9 : w.cell? ⟨g, 9, none⟩ = some (.string x.vs)
  a10 : w.cell? ⟨g, 10, none⟩ = some v10
  a11 : w.cell? ⟨g, 11, none⟩ = some v11
theorem box12 {w : World} {g : Nat} {x : Ex} {v0 v1 v10 v11 : Value} (h : Blok w g 42 #[v0, v1, .int .i64 x.op, .string x.tab, .string x.name, .int .i64 x.t, .int .i64 x.c, .int .i64 x.vk, .int .i64 x.vi, .string x.vs, v10, v11]) : At12 w g x v0 v1 v10 v11 :=
  ⟨h.lt, h.cell 0, h.cell 1, h.cell 2, h.cell 3, h.cell 4, h.cell 5, h.cell 6, h.cell 7, h.cell 8, h.cell 9, h.cell 10, h.cell 11⟩
def smallE (l : List Ex) (j : Nat) : Prop := ∀ x ∈ l.take j, x.nodes ≤ 200
def smallF (l : List Fr) (j : Nat) : Prop := ∀ x ∈ l.take j, x.on.nodes ≤ 200
theorem smallE_all {l : List Ex} (h : smallE l l.length) : ∀ x ∈ l, x.nodes ≤ 200 := by unfold smallE at h; rwa [List.take_length] at h
theorem smallF_all {l : List Fr} (h : smallF l l.length) : ∀ x ∈ l, x.on.nodes ≤ 200 := by unfold smallF at h; rwa [List.take_length] at h
def MqAt (w : World) (cs : Array Value) (n : Nat) (P : Nat → Prop) (i : Value) (wr : World) : Prop := ∃ j : Nat, j ≤ n ∧ i = .int .i64 j ∧ Grew w wr ∧ Blok wr w.heap.size 42 cs ∧ P j
set_option maxHeartbeats 4000000 in
set_option maxRecDepth 100000 in
theorem muchq_any (it : List Ex) (sr : List Fr) (wh : Ex) (gr : List Ex) (A : Option Addr) (k : Nat) (B : Option Addr) (j : Nat) (C : Option Addr) (c : Nat) (D : Option Addr) (d : Nat) (w : World)
    (rA : ExsR (PRow w) A it) (rB : FrsR (PRow w) B sr) (rC : ExsR (PRow w) C wh.l) (rD : ExsR (PRow w) D gr) :
    Calls Try.prog 23 #[.agg (qyC it sr wh gr A k B j C c D d)] w (MuchR w (goodQ ⟨it, sr, wh, gr⟩)) := by
  have RA := Lib.hid rA
  have RB := Lib.hid rB
  have RD := Lib.hid rD
  have HMw : Hid (∀ W, Grew w W → Calls Try.prog 15 #[exV wh C c] W (MuchR W (wh.nodes ≤ 200))) := Lib.hid fun W hW => much8_any wh C c W (rC.grew hW)
  clear rA rB rC rD
  unfold qyC
  unfold exV at HMw
  by_cases h1 : 20 < it.length
  · have h1' : (20 : Int) < it.length := by omega
    clear HMw
    go_enter Try.func23, Try.ntmps23
    go_wp2
    go_ret
    exact muchR_true _ (by (show Grew _ _; repeat (first | exact Grew.refl _ | refine Grew.alloc ?_ _ | refine Grew.drew ?_ | refine Grew.more ?_ _)))
  have h1' : (it.length : Int) ≤ 20 := by omega
  by_cases h2 : 12 < sr.length
  · have h2' : (12 : Int) < sr.length := by omega
    clear HMw
    go_enter Try.func23, Try.ntmps23
    go_wp2
    go_ret
    exact muchR_true _ (by (show Grew _ _; repeat (first | exact Grew.refl _ | refine Grew.alloc ?_ _ | refine Grew.drew ?_ | refine Grew.more ?_ _)))
  have h2' : (sr.length : Int) ≤ 12 := by omega
  by_cases h3 : 12 < gr.length
  · have h3' : (12 : Int) < gr.length := by omega
    clear HMw
    go_enter Try.func23, Try.ntmps23
    go_wp2
    go_ret
    exact muchR_true _ (by (show Grew _ _; repeat (first | exact Grew.refl _ | refine Grew.alloc ?_ _ | refine Grew.drew ?_ | refine Grew.more ?_ _)))
  have h3' : (gr.length : Int) ≤ 12 := by omega
  go_enter Try.func23, Try.ntmps23
  go_wp2_with fail
  refine (HMw.out _ ((Grew.refl w).alloc _)).mono ?_
  rintro e w2 ⟨t, rfl, hg2, ht⟩
  have HG2 : Hid (Grew w w2) := Lib.hid (((Grew.refl w).alloc _).trans hg2)
  have HB2 := Lib.hid ((Blok.new w 42 #[.slice A it.length k, .slice B sr.length j, .int .i64 wh.op, .string wh.tab, .string wh.name, .int .i64 wh.t, .int .i64 wh.c, .int .i64 wh.vk, .int .i64 wh.vi, .string wh.vs, .slice C wh.l.length c, .slice D gr.length d] _ rfl).grew hg2)
  have HT := Lib.hid ht
  clear hg2 ht
  cases t
  rotate_left
  · go_wp2
    go_ret
    exact muchR_true _ HG2.out
  have HW := Lib.hid (HT.out (by first | rfl | trivial))
  clear HT HMw
  go_wp2
  go_loopw [3] (fun i wr => MqAt w #[.slice A it.length k, .slice B sr.length j, .int .i64 wh.op, .string wh.tab, .string wh.name, .int .i64 wh.t, .int .i64 wh.c, .int .i64 wh.vk, .int .i64 wh.vi, .string wh.vs, .slice C wh.l.length c, .slice D gr.length d] it.length (smallE it) i wr) (fun i _ => it.length - (intOf i).toNat)
  case atStart => exact ⟨0, Nat.zero_le _, rfl, HG2.out, HB2.out, by simp [smallE]⟩
  case round =>
    obtain ⟨i, hi, rfl, hg, hb, hp⟩ := hrel
    have HG := Lib.hid hg
    have HB := Lib.hid hb
    have HP := Lib.hid hp
    clear hg hb hp HG2 HB2
    by_cases h : i < it.length
    · obtain ⟨ba, oa, PA, ka, rfl, hpa, h9⟩ := exsR_nine RA.out h
      have HC : Hid (∀ W, Grew w W → Calls Try.prog 15 #[exV it[i] PA ka] W (MuchR W (it[i].nodes ≤ 200))) := Lib.hid fun W hW => much8_any _ _ _ W (hpa.grew hW)
      have HN := Lib.hid (fun hx => take_all (P := fun x : Ex => x.nodes ≤ 200) HP.out h hx)
      obtain ⟨p0, a0, a1, a2, a3, a4, a5, a6, a7, a8⟩ := h9.grew HG.out
      have b0 := (box12 HB.out).lt
      have c0 := (box12 HB.out).a0
      clear h9 hpa
      generalize it[i] = x at *
      unfold exV at HC
      go_wp2_with fail
      refine (HC.out _ HG.out).mono ?_
      rintro e w3 ⟨t, rfl, hg3, ht⟩
      have HG3 := Lib.hid hg3
      have HT := Lib.hid ht
      clear hg3 ht
      cases t
      · go_wp2
        exact ⟨⟨i + 1, by omega, by go_num, HG.out.trans HG3.out, HB.out.grew HG3.out, HN.out (HT.out (by first | rfl | trivial))⟩, by simp only [intOf]; omega⟩
      · go_wp2
        go_ret
        exact muchR_true _ (HG.out.trans HG3.out)
    · obtain rfl : i = it.length := by omega
      have HP1 := Lib.hid (smallE_all HP.out)
      have b0 := (box12 HB.out).lt
      have c0 := (box12 HB.out).a0
      go_wp2
      clear b0 c0
      go_loopw [4] (fun i wr => MqAt w #[.slice A it.length k, .slice B sr.length j, .int .i64 wh.op, .string wh.tab, .string wh.name, .int .i64 wh.t, .int .i64 wh.c, .int .i64 wh.vk, .int .i64 wh.vi, .string wh.vs, .slice C wh.l.length c, .slice D gr.length d] gr.length (smallE gr) i wr) (fun i _ => gr.length - (intOf i).toNat)
      case atStart => exact ⟨0, Nat.zero_le _, rfl, HG.out, HB.out, by simp [smallE]⟩
      case round =>
        clear HP HG HB RA
        obtain ⟨i, hi, rfl, hg, hb, hp⟩ := hrel
        have HG := Lib.hid hg
        have HB := Lib.hid hb
        have HP := Lib.hid hp
        clear hg hb hp
        by_cases h : i < gr.length
        · obtain ⟨ba, oa, PA, ka, rfl, hpa, h9⟩ := exsR_nine RD.out h
          have HC : Hid (∀ W, Grew w W → Calls Try.prog 15 #[exV gr[i] PA ka] W (MuchR W (gr[i].nodes ≤ 200))) := Lib.hid fun W hW => much8_any _ _ _ W (hpa.grew hW)
          have HN := Lib.hid (fun hx => take_all (P := fun x : Ex => x.nodes ≤ 200) HP.out h hx)
          obtain ⟨p0, a0, a1, a2, a3, a4, a5, a6, a7, a8⟩ := h9.grew HG.out
          have b0 := (box12 HB.out).lt
          have c11 := (box12 HB.out).a11
          clear h9 hpa
          generalize gr[i] = x at *
          unfold exV at HC
          go_wp2_with fail
          refine (HC.out _ HG.out).mono ?_
          rintro e w3 ⟨t, rfl, hg3, ht⟩
          have HG3 := Lib.hid hg3
          have HT := Lib.hid ht
          clear hg3 ht
          cases t
          · go_wp2
            exact ⟨⟨i + 1, by omega, by go_num, HG.out.trans HG3.out, HB.out.grew HG3.out, HN.out (HT.out (by first | rfl | trivial))⟩, by simp only [intOf]; omega⟩
          · go_wp2
            go_ret
            exact muchR_true _ (HG.out.trans HG3.out)
        · obtain rfl : i = gr.length := by omega
          have HP2 := Lib.hid (smallE_all HP.out)
          have b0 := (box12 HB.out).lt
          have c11 := (box12 HB.out).a11
          go_wp2
          clear b0 c11
          go_loopw [5] (fun i wr => MqAt w #[.slice A it.length k, .slice B sr.length j, .int .i64 wh.op, .string wh.tab, .string wh.name, .int .i64 wh.t, .int .i64 wh.c, .int .i64 wh.vk, .int .i64 wh.vi, .string wh.vs, .slice C wh.l.length c, .slice D gr.length d] sr.length (smallF sr) i wr) (fun i _ => sr.length - (intOf i).toNat)
          case atStart => exact ⟨0, Nat.zero_le _, rfl, HG.out, HB.out, by simp [smallF]⟩
          case round =>
            clear HP HG HB RD
            obtain ⟨i, hi, rfl, hg, hb, hp⟩ := hrel
            have HG := Lib.hid hg
            have HB := Lib.hid hb
            have HP := Lib.hid hp
            clear hg hb hp
            by_cases h : i < sr.length
            · obtain ⟨ba, oa, PA, ka, rfl, hpa, h9, e0, e1, e2⟩ := frsR_at RB.out h
              have HC : Hid (∀ W, Grew w W → Calls Try.prog 15 #[exV sr[i].on PA ka] W (MuchR W (sr[i].on.nodes ≤ 200))) := Lib.hid fun W hW => much8_any _ _ _ W (hpa.grew hW)
              have HN := Lib.hid (fun hx => take_all (P := fun x : Fr => x.on.nodes ≤ 200) HP.out h hx)
              have HS : Hid (∀ W, Grew wr W → At9 W ba (oa + i * 12 + 3) sr[i].on PA ka ∧ W.cell? ⟨ba, oa + i * 12 + 1, none⟩ = some (.string sr[i].table) ∧ W.cell? ⟨ba, oa + i * 12 + 2, none⟩ = some (.string sr[i].short)) := Lib.hid fun W hW => by
                have g := HG.out.trans hW
                have h9' := h9.grew g
                obtain ⟨z, rfl⟩ := g
                refine ⟨h9', ?_, ?_⟩
                · rw [more_cell _ _ _ h9.lt]; exact e1
                · rw [more_cell _ _ _ h9.lt]; exact e2
              have HBS := Lib.hid (fun W (hW : Grew wr W) => box12 (HB.out.grew hW))
              clear h9 hpa e0 e1 e2
              generalize sr[i] = x at *
              unfold exV at HC
              obtain ⟨q1, _⟩ := HS.out wr (Grew.refl _)
              obtain ⟨p0, a0, a1, a2, a3, a4, a5, a6, a7, a8⟩ := q1
              have b0 := (box12 HB.out).lt
              have c1 := (box12 HB.out).a1
              go_upto_region 16 with fail
              clear p0 a0 a1 a2 a3 a4 a5 a6 a7 a8 b0 c1
              refine wp_region_S (fun W => Grew wr W) (by kernel_rfl) ?_
              refine held_take 0 (v := ?_) rfl (by kernel_rfl) (by kernel_rfl) (by kernel_rfl) (fun _ _ _ h => h) (by rfl) ?_ (Grew.refl _).drew ?_
              rotate_left
              · (intro W hW; go_simp; with_reducible rfl)
              refine held_norm (a' := ?_) ?_ ?_
              rotate_left
              · (go_simp; with_reducible rfl)
              refine held_take 1 (v := ?_) rfl (by kernel_rfl) (by kernel_rfl) (by kernel_rfl) (fun _ _ _ h => h) (by rfl) ?_ (Grew.refl _).drew ?_
              rotate_left
              · (intro W hW; obtain ⟨⟨_, q0, q1, q2, q3, q4, q5, q6, q7, q8⟩, qt, qs⟩ := HS.out W hW; have r1 := (HBS.out W hW).a1; have r0 := (HBS.out W hW).lt; go_simp; with_reducible rfl)
              refine held_norm (a' := ?_) ?_ ?_
              rotate_left
              · (go_simp; with_reducible rfl)
              refine held_take 2 (v := ?_) rfl (by kernel_rfl) (by kernel_rfl) (by kernel_rfl) (fun _ _ _ h => h) (by rfl) ?_ (Grew.refl _).drew ?_
              rotate_left
              · (intro W hW; go_simp; with_reducible rfl)
              refine held_norm (a' := ?_) ?_ ?_
              rotate_left
              · (go_simp; with_reducible rfl)
              refine held_take 3 (v := ?_) rfl (by kernel_rfl) (by kernel_rfl) (by kernel_rfl) (fun _ _ _ h => h) (by rfl) ?_ (Grew.refl _).drew ?_
              rotate_left
              · (intro W hW; go_simp; with_reducible rfl)
              refine held_norm (a' := ?_) ?_ ?_
              rotate_left
              · (go_simp; with_reducible rfl)
              refine held_take 4 (v := ?_) rfl (by kernel_rfl) (by kernel_rfl) (by kernel_rfl) (fun _ _ _ h => h) (by rfl) ?_ (Grew.refl _).drew ?_
              rotate_left
              · (intro W hW; go_simp; with_reducible rfl)
              refine held_norm (a' := ?_) ?_ ?_
              rotate_left
              · (go_simp; with_reducible rfl)
              refine held_take 5 (v := ?_) rfl (by kernel_rfl) (by kernel_rfl) (by kernel_rfl) (fun _ _ _ h => h) (by rfl) ?_ (Grew.refl _).drew ?_
              rotate_left
              · (intro W hW; obtain ⟨⟨_, q0, q1, q2, q3, q4, q5, q6, q7, q8⟩, qt, qs⟩ := HS.out W hW; have r1 := (HBS.out W hW).a1; have r0 := (HBS.out W hW).lt; go_simp; with_reducible rfl)
              refine held_norm (a' := ?_) ?_ ?_
              rotate_left
              · (go_simp; with_reducible rfl)
              refine held_call 6 (by kernel_rfl) rfl (by rfl) (fun K hK => ?_)
              go_simp
              refine (HC.out _ (HG.out.trans (Grew.refl wr).drew)).mono ?_
              rintro e w3 ⟨t, rfl, hg3, ht⟩; have HG3 := Lib.hid (Grew.trans (Grew.refl wr).drew hg3); have HT := Lib.hid ht; clear hg3 ht
              go_wp2
              refine hK.out _ _ HG3.out ?_
              clear hK K
              cases t
              ·
                refine held_take 7 (v := ?_) rfl (by kernel_rfl) (by kernel_rfl) (by kernel_rfl) (fun _ _ _ h => h) (by rfl) ?_ HG3.out ?_
                rotate_left
                · (intro W hW; obtain ⟨⟨_, q0, q1, q2, q3, q4, q5, q6, q7, q8⟩, qt, qs⟩ := HS.out W hW; have r1 := (HBS.out W hW).a1; have r0 := (HBS.out W hW).lt; go_simp; with_reducible rfl)
                refine held_norm (a' := ?_) ?_ ?_
                rotate_left
                · (go_simp; with_reducible rfl)
                refine held_take 8 (v := ?_) rfl (by kernel_rfl) (by kernel_rfl) (by kernel_rfl) (fun _ _ _ h => h) (by rfl) ?_ HG3.out ?_
                rotate_left
                · (intro W hW; go_simp; with_reducible rfl)
                refine held_take 10 (v := ?_) rfl (by kernel_rfl) (by kernel_rfl) (by kernel_rfl) (fun _ _ _ h => h) (by rfl) ?_ HG3.out ?_
                rotate_left
                · (intro W hW; go_simp; with_reducible rfl)
                refine held_norm (a' := ?_) ?_ ?_
                rotate_left
                · (go_simp; with_reducible rfl)
                refine held_take 9 (v := ?_) rfl (by kernel_rfl) (by kernel_rfl) (by kernel_rfl) (fun _ _ _ h => h) (by rfl) ?_ HG3.out ?_
                rotate_left
                · (intro W hW; obtain ⟨⟨_, q0, q1, q2, q3, q4, q5, q6, q7, q8⟩, qt, qs⟩ := HS.out W hW; have r1 := (HBS.out W hW).a1; have r0 := (HBS.out W hW).lt; go_simp; with_reducible rfl)
                refine held_norm (a' := ?_) ?_ ?_
                rotate_left
                · (go_simp; with_reducible rfl)
                refine held_take 11 (v := ?_) rfl (by kernel_rfl) (by kernel_rfl) (by kernel_rfl) (fun _ _ _ h => h) (by rfl) ?_ HG3.out ?_
                rotate_left
                · (intro W hW; go_simp; with_reducible rfl)
                refine held_norm (a' := ?_) ?_ ?_
                rotate_left
                · (go_simp; with_reducible rfl)
                refine held_take 12 (v := ?_) rfl (by kernel_rfl) (by kernel_rfl) (by kernel_rfl) (fun _ _ _ h => h) (by rfl) ?_ HG3.out ?_
                rotate_left
                · (intro W hW; go_simp; with_reducible rfl)
                refine held_norm (a' := ?_) ?_ ?_
                rotate_left
                · (go_simp; with_reducible rfl)
                refine held_take 13 (v := ?_) rfl (by kernel_rfl) (by kernel_rfl) (by kernel_rfl) (fun _ _ _ h => h) (by rfl) ?_ HG3.out ?_
                rotate_left
                · (intro W hW; obtain ⟨⟨_, q0, q1, q2, q3, q4, q5, q6, q7, q8⟩, qt, qs⟩ := HS.out W hW; have r1 := (HBS.out W hW).a1; have r0 := (HBS.out W hW).lt; go_simp; with_reducible rfl)
                refine held_norm (a' := ?_) ?_ ?_
                rotate_left
                · (go_simp; with_reducible rfl)
                refine held_take 14 (v := ?_) rfl (by kernel_rfl) (by kernel_rfl) (by kernel_rfl) (fun _ _ _ h => h) (by rfl) ?_ HG3.out ?_
                rotate_left
                · (intro W hW; go_simp; with_reducible rfl)
                refine held_norm (a' := ?_) ?_ ?_
                rotate_left
                · (go_simp; with_reducible rfl)
                refine held_take 15 (v := ?_) rfl (by kernel_rfl) (by kernel_rfl) (by kernel_rfl) (fun _ _ _ h => h) (by rfl) ?_ HG3.out ?_
                rotate_left
                · (intro W hW; go_simp; with_reducible rfl)
                refine held_take 17 (v := ?_) rfl (by kernel_rfl) (by kernel_rfl) (by kernel_rfl) (fun _ _ _ h => h) (by rfl) ?_ HG3.out ?_
                rotate_left
                · (intro W hW; go_simp; with_reducible rfl)
                refine held_norm (a' := ?_) ?_ ?_
                rotate_left
                · (go_simp; with_reducible rfl)
                refine held_take 16 (v := ?_) rfl (by kernel_rfl) (by kernel_rfl) (by kernel_rfl) (fun _ _ _ h => h) (by rfl) ?_ HG3.out ?_
                rotate_left
                · (intro W hW; obtain ⟨⟨_, q0, q1, q2, q3, q4, q5, q6, q7, q8⟩, qt, qs⟩ := HS.out W hW; have r1 := (HBS.out W hW).a1; have r0 := (HBS.out W hW).lt; go_simp; with_reducible rfl)
                refine held_norm (a' := ?_) ?_ ?_
                rotate_left
                · (go_simp; with_reducible rfl)
                refine held_take 18 (v := ?_) rfl (by kernel_rfl) (by kernel_rfl) (by kernel_rfl) (fun _ _ _ h => h) (by rfl) ?_ HG3.out ?_
                rotate_left
                · (intro W hW; go_simp; with_reducible rfl)
                refine held_norm (a' := ?_) ?_ ?_
                rotate_left
                · (go_simp; with_reducible rfl)
                refine held_take 19 (v := ?_) rfl (by kernel_rfl) (by kernel_rfl) (by kernel_rfl) (fun _ _ _ h => h) (by rfl) ?_ HG3.out ?_
                rotate_left
                · (intro W hW; go_simp; with_reducible rfl)
                refine held_norm (a' := ?_) ?_ ?_
                rotate_left
                · (go_simp; with_reducible rfl)
                refine held_take 20 (v := ?_) rfl (by kernel_rfl) (by kernel_rfl) (by kernel_rfl) (fun _ _ _ h => h) (by rfl) ?_ HG3.out ?_
                rotate_left
                · (intro W hW; obtain ⟨⟨_, q0, q1, q2, q3, q4, q5, q6, q7, q8⟩, qt, qs⟩ := HS.out W hW; have r1 := (HBS.out W hW).a1; have r0 := (HBS.out W hW).lt; go_simp; with_reducible rfl)
                refine held_norm (a' := ?_) ?_ ?_
                rotate_left
                · (go_simp; with_reducible rfl)
                refine held_take 21 (v := ?_) rfl (by kernel_rfl) (by kernel_rfl) (by kernel_rfl) (fun _ _ _ h => h) (by rfl) ?_ HG3.out ?_
                rotate_left
                · (intro W hW; go_simp; with_reducible rfl)
                refine held_norm (a' := ?_) ?_ ?_
                rotate_left
                · (go_simp; with_reducible rfl)
                refine held_take 22 (v := ?_) rfl (by kernel_rfl) (by kernel_rfl) (by kernel_rfl) (fun _ _ _ h => h) (by rfl) ?_ HG3.out ?_
                rotate_left
                · (intro W hW; go_simp; with_reducible rfl)
                refine held_norm (a' := ?_) ?_ ?_
                rotate_left
                · (go_simp; with_reducible rfl)
                refine held_take 23 (v := ?_) rfl (by kernel_rfl) (by kernel_rfl) (by kernel_rfl) (fun _ _ _ h => h) (by rfl) ?_ HG3.out ?_
                rotate_left
                · (intro W hW; go_simp; with_reducible rfl)
                refine held_norm (a' := ?_) ?_ ?_
                rotate_left
                · (go_simp; with_reducible rfl)
                refine held_take 24 (v := ?_) rfl (by kernel_rfl) (by kernel_rfl) (by kernel_rfl) (fun _ _ _ h => h) (by rfl) ?_ HG3.out ?_
                rotate_left
                · (intro W hW; go_simp; with_reducible rfl)
                refine held_norm (a' := ?_) ?_ ?_
                rotate_left
                · (go_simp; with_reducible rfl)
                refine held_done (by kernel_rfl) ?_
                go_upto_region 17 with fail
                · go_wp2
                  go_ret
                  exact muchR_true _ (HG.out.trans HG3.out)
                · exact ⟨⟨i + 1, by omega, by go_num, HG.out.trans HG3.out, HB.out.grew HG3.out, HN.out (HT.out (by first | rfl | trivial))⟩, by simp only [intOf]; omega⟩
              ·
                refine held_take 7 (v := ?_) rfl (by kernel_rfl) (by kernel_rfl) (by kernel_rfl) (fun _ _ _ h => h) (by rfl) ?_ HG3.out ?_
                rotate_left
                · (intro W hW; obtain ⟨⟨_, q0, q1, q2, q3, q4, q5, q6, q7, q8⟩, qt, qs⟩ := HS.out W hW; have r1 := (HBS.out W hW).a1; have r0 := (HBS.out W hW).lt; go_simp; with_reducible rfl)
                refine held_norm (a' := ?_) ?_ ?_
                rotate_left
                · (go_simp; with_reducible rfl)
                refine held_skip 8 rfl (by kernel_rfl) (by kernel_rfl) (by kernel_rfl) (fun _ _ _ h => h) (by rfl) HG3.out ?_
                refine held_norm (a' := ?_) ?_ ?_
                rotate_left
                · (go_simp; with_reducible rfl)
                refine held_skip 9 rfl (by kernel_rfl) (by kernel_rfl) (by kernel_rfl) (fun _ _ _ h => h) (by rfl) HG3.out ?_
                refine held_norm (a' := ?_) ?_ ?_
                rotate_left
                · (go_simp; with_reducible rfl)
                refine held_skip 10 rfl (by kernel_rfl) (by kernel_rfl) (by kernel_rfl) (fun _ _ _ h => h) (by rfl) HG3.out ?_
                refine held_norm (a' := ?_) ?_ ?_
                rotate_left
                · (go_simp; with_reducible rfl)
                refine held_skip 11 rfl (by kernel_rfl) (by kernel_rfl) (by kernel_rfl) (fun _ _ _ h => h) (by rfl) HG3.out ?_
                refine held_norm (a' := ?_) ?_ ?_
                rotate_left
                · (go_simp; with_reducible rfl)
                refine held_skip 12 rfl (by kernel_rfl) (by kernel_rfl) (by kernel_rfl) (fun _ _ _ h => h) (by rfl) HG3.out ?_
                refine held_norm (a' := ?_) ?_ ?_
                rotate_left
                · (go_simp; with_reducible rfl)
                refine held_skip 13 rfl (by kernel_rfl) (by kernel_rfl) (by kernel_rfl) (fun _ _ _ h => h) (by rfl) HG3.out ?_
                refine held_norm (a' := ?_) ?_ ?_
                rotate_left
                · (go_simp; with_reducible rfl)
                refine held_skip 14 rfl (by kernel_rfl) (by kernel_rfl) (by kernel_rfl) (fun _ _ _ h => h) (by rfl) HG3.out ?_
                refine held_norm (a' := ?_) ?_ ?_
                rotate_left
                · (go_simp; with_reducible rfl)
                refine held_skip 15 rfl (by kernel_rfl) (by kernel_rfl) (by kernel_rfl) (fun _ _ _ h => h) (by rfl) HG3.out ?_
                refine held_norm (a' := ?_) ?_ ?_
                rotate_left
                · (go_simp; with_reducible rfl)
                refine held_skip 16 rfl (by kernel_rfl) (by kernel_rfl) (by kernel_rfl) (fun _ _ _ h => h) (by rfl) HG3.out ?_
                refine held_norm (a' := ?_) ?_ ?_
                rotate_left
                · (go_simp; with_reducible rfl)
                refine held_skip 17 rfl (by kernel_rfl) (by kernel_rfl) (by kernel_rfl) (fun _ _ _ h => h) (by rfl) HG3.out ?_
                refine held_norm (a' := ?_) ?_ ?_
                rotate_left
                · (go_simp; with_reducible rfl)
                refine held_skip 18 rfl (by kernel_rfl) (by kernel_rfl) (by kernel_rfl) (fun _ _ _ h => h) (by rfl) HG3.out ?_
                refine held_norm (a' := ?_) ?_ ?_
                rotate_left
                · (go_simp; with_reducible rfl)
                refine held_skip 19 rfl (by kernel_rfl) (by kernel_rfl) (by kernel_rfl) (fun _ _ _ h => h) (by rfl) HG3.out ?_
                refine held_norm (a' := ?_) ?_ ?_
                rotate_left
                · (go_simp; with_reducible rfl)
                refine held_skip 20 rfl (by kernel_rfl) (by kernel_rfl) (by kernel_rfl) (fun _ _ _ h => h) (by rfl) HG3.out ?_
                refine held_norm (a' := ?_) ?_ ?_
                rotate_left
                · (go_simp; with_reducible rfl)
                refine held_skip 21 rfl (by kernel_rfl) (by kernel_rfl) (by kernel_rfl) (fun _ _ _ h => h) (by rfl) HG3.out ?_
                refine held_norm (a' := ?_) ?_ ?_
                rotate_left
                · (go_simp; with_reducible rfl)
                refine held_skip 22 rfl (by kernel_rfl) (by kernel_rfl) (by kernel_rfl) (fun _ _ _ h => h) (by rfl) HG3.out ?_
                refine held_norm (a' := ?_) ?_ ?_
                rotate_left
                · (go_simp; with_reducible rfl)
                refine held_skip 23 rfl (by kernel_rfl) (by kernel_rfl) (by kernel_rfl) (fun _ _ _ h => h) (by rfl) HG3.out ?_
                refine held_norm (a' := ?_) ?_ ?_
                rotate_left
                · (go_simp; with_reducible rfl)
                refine held_take 24 (v := ?_) rfl (by kernel_rfl) (by kernel_rfl) (by kernel_rfl) (fun _ _ _ h => h) (by rfl) ?_ HG3.out ?_
                rotate_left
                · (intro W hW; obtain ⟨⟨_, q0, q1, q2, q3, q4, q5, q6, q7, q8⟩, qt, qs⟩ := HS.out W hW; have r1 := (HBS.out W hW).a1; have r0 := (HBS.out W hW).lt; go_simp; with_reducible rfl)
                refine held_norm (a' := ?_) ?_ ?_
                rotate_left
                · (go_simp; with_reducible rfl)
                refine held_done (by kernel_rfl) ?_
                go_wp2
                go_ret
                exact muchR_true _ (HG.out.trans HG3.out)
            · obtain rfl : i = sr.length := by omega
              have HP3 := Lib.hid (smallF_all HP.out)
              have b0 := (box12 HB.out).lt
              have c1 := (box12 HB.out).a1
              go_wp2
              go_ret
              exact muchR_false HG.out ⟨by show it.length ≤ 20; omega, by show sr.length ≤ 12; omega, by show gr.length ≤ 12; omega, HW.out, HP1.out, HP2.out, HP3.out⟩
end Go.Proofs.Ytddambfniaiogaa

/- Layer 13: the law of truths. Condition: expressions and rows that lie in memory that is there, no part beyond the reach. -/
namespace Go.Proofs.Ytddambfniaiogaa
open Go.RowKit
attribute [local go_sem] more_cell more_frozen more_more more_setCell more_of_drew more_of_drewN lt_more le_more past_cell past_cell2 past_frozen past_frozen2 past_setCell past_setCell2 mid_cell mid_frozen mid_setCell
attribute [local go_sem ↓] Go.wp_at_zero Go.wp_at_succ

/-- Whether all of some hold. -/
def holdB (env : List (List Vl)) (l : List Ex) : Bool := l.all fun y => evalT env y == 1
theorem holdB_take {env : List (List Vl)} {l : List Ex} {j : Nat} (h : j < l.length) : holdB env (l.take (j + 1)) = (holdB env (l.take j) && (evalT env l[j] == 1)) := by
  unfold holdB
  rw [List.take_succ_eq_append_getElem h, List.all_append]
  simp
theorem holdB_false {env : List (List Vl)} {l : List Ex} {j : Nat} (h : j < l.length) (hx : ¬ evalT env l[j] = 1) : holdB env l = false := by
  unfold holdB
  rw [List.all_eq_false]
  exact ⟨l[j], List.getElem_mem h, by simpa using hx⟩
def HoldAt (w : World) (env : List (List Vl)) (l : List Ex) (i : Value) (wr : World) : Prop := ∃ j : Nat, j ≤ l.length ∧ i = .int .i64 j ∧ Grew w wr ∧ holdB env (l.take j) = true
set_option maxHeartbeats 4000000 in
set_option maxRecDepth 100000 in
theorem holds_any (env : List (List Vl)) (he : RwsOk env) (E : Option Addr) (ke : Nat) (l : List Ex) (hl : ExsOk l) (A : Option Addr) (k : Nat) (w : World) (ra : ExsR (PRow w) A l) (rb : RwsR (PRow w) E env) :
    Gives Try.prog 26 #[.slice A l.length k, .slice E env.length ke] w (.bool (holdB env l)) := by
  have RA := Lib.hid ra
  have RB := Lib.hid rb
  have HO := Lib.hid hl
  have HE := Lib.hid he
  have hlen := hl.1
  clear ra rb hl he
  obtain ⟨r, hr⟩ : ∃ r, holdB env l = r := ⟨_, rfl⟩
  have HR := Lib.hid hr
  rw [hr]
  clear hr
  unfold Gives
  go_enter Try.func26, Try.ntmps26
  go_wp2
  go_loopw [9] (fun i wr => HoldAt w env l i wr) (fun i _ => l.length - (intOf i).toNat)
  case atStart => exact ⟨0, Nat.zero_le _, rfl, by (show Grew _ _; repeat (first | exact Grew.refl _ | refine Grew.alloc ?_ _ | refine Grew.drew ?_ | refine Grew.more ?_ _)), rfl⟩
  case round =>
    obtain ⟨j, hj, rfl, hg, hp⟩ := hrel
    have HG := Lib.hid hg
    have HP := Lib.hid hp
    clear hg hp
    by_cases h : j < l.length
    · obtain ⟨b, o, B, kb, rfl, hpa, h9⟩ := exsR_nine RA.out h
      have HN : Hid (holdB env (l.take (j + 1)) = (evalT env l[j] == 1)) := Lib.hid (by rw [holdB_take h, HP.out]; rfl)
      have HF : Hid (¬ evalT env l[j] = 1 → r = false) := Lib.hid fun hx => by rw [← HR.out]; exact holdB_false h hx
      have HT : Hid (∀ W, Grew w W → Gives Try.prog 25 #[exV l[j] B kb, .slice E env.length ke] W (.int .i64 (evalT env l[j]))) := Lib.hid fun W hW => truthE_any env HE.out E ke _ _ (Nat.le_refl _) (HO.out.2 _ (List.getElem_mem h)) B kb W (hpa.grew hW) (RB.out.grew hW)
      obtain ⟨p0, a0, a1, a2, a3, a4, a5, a6, a7, a8⟩ := h9.grew HG.out
      clear h9 hpa HP
      generalize evalT env l[j] = t at *
      generalize l[j] = x at *
      unfold exV at HT
      by_cases ht : t = 1
      · subst ht
        go_wp2_with fail
        refine (HT.out _ (HG.out.alloc _)).grows.mono ?_
        rintro e w3 ⟨rfl, hg3⟩
        have HG3 := Lib.hid ((HG.out.alloc _).trans hg3)
        clear hg3 HT
        go_wp2_with (go_at_call 100; refine (is_any _ _).mono ?_; rintro e w' ⟨rfl, rfl⟩)
        exact ⟨⟨j + 1, by omega, by go_num, HG3.out, by rw [HN.out]; rfl⟩, by simp only [intOf]; omega⟩
      · have ht1 : (t == 1) = false := by simpa using ht
        obtain rfl := HF.out ht
        clear ht HF HN HR
        go_wp2_with fail
        refine (HT.out _ (HG.out.alloc _)).grows.mono ?_
        rintro e w3 ⟨rfl, hg3⟩
        have HG3 := Lib.hid ((HG.out.alloc _).trans hg3)
        clear hg3 HT
        go_wp2_with (go_at_call 100; refine (is_any _ _).mono ?_; rintro e w' ⟨rfl, rfl⟩)
        go_ret
        exact ⟨rfl, HG3.out⟩
    · obtain rfl : j = l.length := by omega
      have HR2 : r = true := by
        have h1 := HP.out
        rw [List.take_length, HR.out] at h1
        exact h1
      subst HR2
      clear HR HP
      go_wp2
      go_ret
      exact ⟨rfl, HG.out⟩
def HoldsAt (w : World) (env : List (List Vl)) (l : List Ex) (v i : Value) (wr : World) : Prop := ∃ j : Nat, j ≤ l.length ∧ i = .int .i64 j ∧ v = .bool (holdB env (l.take j)) ∧ Grew w wr
set_option maxHeartbeats 8000000 in
set_option maxRecDepth 100000 in
theorem evalTruths_walk (x : Ex) (A : Option Addr) (k : Nat) (l : List Ex) (L : Option Addr) (kl : Nat) (env : List (List Vl)) (E : Option Addr) (ke : Nat) (w : World) (hx : ExOk x) (hl : ExsOk l) (he : RwsOk env) (ra : ExsR (PRow w) A x.l) (rl : ExsR (PRow w) L l) (rb : RwsR (PRow w) E env) :
    Gives Try.prog 4 #[exV x A k, .slice L l.length kl, .slice E env.length ke] w (.bool true) := by
  have HM1 : Hid (∀ W, Grew w W → Calls Try.prog 15 #[exV x A k] W (MuchR W (x.nodes ≤ 200))) := Lib.hid fun W hW => much8_any x A k W (ra.grew hW)
  have HM2 : Hid (∀ W, Grew w W → Calls Try.prog 16 #[.slice E env.length ke] W (MuchR W (goodEnv env))) := Lib.hid fun W hW => much13_any env he E ke W (rb.grew hW)
  have HM3 : Hid (∀ W, Grew w W → Calls Try.prog 23 #[.agg #[.slice L l.length kl, .slice none 0 0, .int .i64 0, .string ⟨#[]⟩, .string ⟨#[]⟩, .int .i64 0, .int .i64 0, .int .i64 0, .int .i64 0, .string ⟨#[]⟩, .slice none 0 0, .slice none 0 0]] W (MuchR W (goodQ ⟨l, [], leafE 0, []⟩))) := Lib.hid fun W hW =>
    muchq_any l [] (leafE 0) [] L kl none 0 none 0 none 0 W (rl.grew hW) ⟨[], ListR.nil, Or.inl rfl⟩ (exs_nil W) (exs_nil W)
  have HTE : Hid (∀ W, Grew w W → Gives Try.prog 25 #[exV x A k, .slice E env.length ke] W (.int .i64 (evalT env x))) := Lib.hid fun W hW => truthE_any env he E ke _ _ (Nat.le_refl _) hx A k W (ra.grew hW) (rb.grew hW)
  have HTR : Hid (∀ W, Grew w W → Gives Try.prog 24 #[exV x A k, .slice E env.length ke] W (.int .i64 (evalT env x))) := Lib.hid fun W hW => rtruthE_any env he E ke _ _ (Nat.le_refl _) hx A k W (ra.grew hW) (rb.grew hW)
  have HH : Hid (∀ W, Grew w W → Gives Try.prog 26 #[.slice L l.length kl, .slice E env.length ke] W (.bool (holdB env l))) := Lib.hid fun W hW => holds_any env he E ke l hl L kl W (rl.grew hW) (rb.grew hW)
  have HR1 : Hid (∀ (i : Nat) (hi : i < l.length) (B : Option Addr) (j : Nat), ExsR (PRow w) B l[i].l → ∀ W, Grew w W → Gives Try.prog 24 #[exV l[i] B j, .slice E env.length ke] W (.int .i64 (evalT env l[i]))) := Lib.hid fun i hi B j hp W hW => rtruthE_any env he E ke _ _ (Nat.le_refl _) (hl.2 _ (List.getElem_mem hi)) B j W (hp.grew hW) (rb.grew hW)
  have RL := Lib.hid rl
  have hlen := hl.1
  obtain ⟨W0, hW0⟩ : ∃ W0, W0 = w.alloc (.cells (exC x A k).toArray 26) := ⟨_, rfl⟩
  have HG0 : Hid (Grew w W0) := Lib.hid (by rw [hW0]; exact (Grew.refl w).alloc _)
  have HX0 : Hid (Blok W0 w.heap.size 26 (exC x A k).toArray) := Lib.hid (by rw [hW0]; exact Blok.new _ _ _ _ rfl)
  generalize evalT env x = tv at *
  generalize env.length = n at *
  clear ra rb rl hx he hl
  unfold exV at *
  unfold Gives
  go_enter Try.func4, Try.ntmps4
  go_upto_region 1 with fail
  change Code.wp _ _ _ _ (w.alloc (.cells (exC x A k).toArray 26))
  rw [← hW0]
  clear hW0
  generalize w.heap.size = g at *
  obtain ⟨la, a0, a1, a2, a3, a4, a5, a6, a7, a8⟩ := blok9 HX0.out
  go_wp2_with fail
  refine (HM1.out _ HG0.out).mono ?_
  rintro e w2 ⟨t1, rfl, hg2, h1⟩
  have HG2 := Lib.hid (HG0.out.trans hg2)
  have HX2 := Lib.hid (HX0.out.grew hg2)
  clear hg2 h1 la a0 a1 a2 a3 a4 a5 a6 a7 a8 HM1 HX0
  cases t1
  rotate_left
  · clear HTE HTR HH HR1 HM2 HM3 HX2
    go_wp2_with (first | (go_at_call 17; (with_reducible refine (live13_any _).grows.mono ?_); rintro e w6 ⟨rfl, hg6⟩; have G6 := Lib.hid hg6; clear hg6))
    go_ret
    exact ⟨rfl, HG2.out.trans G6.out⟩
  go_wp2_with fail
  refine (HM2.out _ HG2.out).mono ?_
  rintro e w3 ⟨t2, rfl, hg3, h2⟩
  have HG3 := Lib.hid (HG2.out.trans hg3)
  have HX3 := Lib.hid (HX2.out.grew hg3)
  clear hg3 h2 HM2 HX2
  cases t2
  rotate_left
  · clear HTE HTR HH HR1 HM3 HX3
    go_wp2_with (first | (go_at_call 17; (with_reducible refine (live13_any _).grows.mono ?_); rintro e w6 ⟨rfl, hg6⟩; have G6 := Lib.hid hg6; clear hg6))
    go_ret
    exact ⟨rfl, HG3.out.trans G6.out⟩
  go_wp2_with fail
  refine (HM3.out _ HG3.out).mono ?_
  rintro e w4 ⟨t3, rfl, hg4, h3⟩
  have HG4 := Lib.hid (HG3.out.trans hg4)
  have HX4 := Lib.hid (HX3.out.grew hg4)
  clear hg4 h3 HM3 HX3
  cases t3
  rotate_left
  · clear HTE HTR HH HR1 HX4
    go_wp2_with (first | (go_at_call 17; (with_reducible refine (live13_any _).grows.mono ?_); rintro e w6 ⟨rfl, hg6⟩; have G6 := Lib.hid hg6; clear hg6))
    go_ret
    exact ⟨rfl, HG4.out.trans G6.out⟩
  go_wp2
  go_loopw [7, 8] (fun v i wr => HoldsAt w4 env l v i wr) (fun _ i _ => l.length - (intOf i).toNat)
  case atStart => exact ⟨0, Nat.zero_le _, rfl, rfl, by (show Grew _ _; repeat (first | exact Grew.refl _ | refine Grew.alloc ?_ _ | refine Grew.drew ?_ | refine Grew.more ?_ _))⟩
  case round =>
    obtain ⟨j, hj, rfl, rfl, hg⟩ := hrel
    have HG5 := Lib.hid hg
    clear hg
    by_cases h : j < l.length
    · have HN := Lib.hid (holdB_take (env := env) h)
      obtain ⟨b, o, B, kb, rfl, hpa, h9⟩ := exsR_nine RL.out h
      have HT := Lib.hid (HR1.out j h B kb hpa)
      obtain ⟨p0, a0, a1, a2, a3, a4, a5, a6, a7, a8⟩ := h9.grew (HG4.out.trans HG5.out)
      clear h9 hpa HR1
      generalize evalT env l[j] = t at *
      generalize l[j] = y at *
      cases hs : holdB env (l.take j)
      · rw [hs] at HN
        clear HT hs
        go_wp2
        exact ⟨⟨j + 1, by omega, by go_num, by rw [HN.out]; rfl, HG5.out⟩, by simp only [intOf]; omega⟩
      · rw [hs] at HN
        clear hs
        go_wp2_with fail
        refine (HT.out _ (HG4.out.trans HG5.out)).grows.mono ?_
        rintro e w6 ⟨rfl, hg6⟩
        have HG6 := Lib.hid (HG5.out.trans hg6)
        clear hg6
        go_wp2
        exact ⟨⟨j + 1, by omega, by go_num, by rw [HN.out]; rfl, HG6.out⟩, by simp only [intOf]; omega⟩
    · obtain rfl : j = l.length := by omega
      rw [List.take_length]
      generalize holdB env l = s at *
      have ett : (tv == tv) = true := by simp
      have ess : (s == s) = true := by simp
      obtain ⟨la, a0, a1, a2, a3, a4, a5, a6, a7, a8⟩ := blok9 (HX4.out.grew HG5.out)
      have HG := Lib.hid (HG4.out.trans HG5.out)
      clear HG5 HG4 HX4 HR1 HG3 HG2 HG0 RL
      go_upto_region 8 with fail
      refine wp_region_more (by kernel_rfl) (by kernel_rfl) ?_
      repeat (go_big_quiet_step ((first | (go_at_call 25; with_reducible exact (HTE.out _ (HG.out.more _)).within) | (go_at_call 24; with_reducible exact (HTR.out _ (HG.out.more _)).within) | (go_at_call 26; with_reducible exact (HH.out _ (HG.out.more _)).within) | (go_at_call 17; with_reducible exact (live13_any _).within))))
      refine wpQuiet_nil ?_
      rintro _ ⟨z, rfl⟩
      go_wp2
      go_ret
      exact ⟨rfl, HG.out.more _⟩
end Go.Proofs.Ytddambfniaiogaa

namespace Go.Proofs.Ytddambfniaiogaa.evalTruths
open Go.RowKit Go.ChangeShapes Go.WideShapes Go.ChangeAt Go.Joins

theorem reads : ∀ t ∈ Try.f4.params.toList, Try.prog.readableRec t = true ∧ t < Try.prog.types.size := by
  rw [Try.params4]
  intro t ht
  simp only [List.mem_cons, List.not_mem_nil, or_false] at ht
  rcases ht with rfl | rfl | rfl
  all_goals exact ⟨by kernel_rfl, of_decide_eq_true (by kernel_rfl)⟩

set_option maxRecDepth 100000 in
theorem lifted (os : Os) (started : os.Started) (H : Type) (enc : TypeId × Value → H) :
    ReturnsInHanded {} Try.checked os 4 .any (Rows.evalTruthsSpec.pre6 enc Try.prog Try.f4 Rows.evalTruthsRow.domain false) (Rows.evalTruthsSpec.post enc Try.prog Try.f4 false true false false) := by
  refine returnsInHanded_of_change_sized (C := Try.checked) own started (by kernel_rfl) Try.func4
    (ChangeSpec.witness6 (enc := enc) (C := Try.checked) false ⟨#[], #[.agg #[.int .i64 0, .string ByteArray.empty, .string ByteArray.empty, .int .i64 0, .int .i64 0, .int .i64 0, .int .i64 0, .string ByteArray.empty, .slice none 0 0], .slice none 0 0, .slice none 0 0], []⟩ 8 (by kernel_rfl) (by kernel_rfl) (by kernel_rfl) (by kernel_rfl)) ?_
  intro W base args ds gs before hval0 hW hcnd hsz0 _
  have hval : ∀ (j : Nat) t v, Try.f4.params[j]? = some t → args[j]? = some v → Value.okWide Try.prog W .any base t v := hval0
  have hW' := hW
  obtain ⟨p, q, hA0, hV, hpq, hfz, hnd⟩ := hW
  have hA : DataW.TrodAll enc Try.prog W 0 (fun _ => true) true Try.f4.params.toList args.toList ds p := hA0
  rw [Try.params4] at hA hval
  obtain ⟨v0, vs0, d0, ds0, p0, q0, hargs, rfl, rfl, h0, r0⟩ := trodAll_cons hA
  obtain ⟨v1, vs1, d1, ds1, p1, q1, rfl, rfl, rfl, h1, r1⟩ := trodAll_cons r0
  obtain ⟨v2, vs2, d2, ds2, p2, q2, rfl, rfl, rfl, h2, r2⟩ := trodAll_cons r1
  obtain ⟨rfl, rfl, rfl⟩ := trodAll_nil r2
  obtain rfl : args = #[v0, v1, v2] := by cases args; simp_all
  obtain ⟨rfl, rfl⟩ := trodVars_none hV
  have hz : (DataW.weightsEach Try.prog [26, 24, 27] [d0, d1, d2]).all (· ≤ reachBytes) = true := hsz0
  simp only [DataW.weightsEach, List.all_append, List.append_nil, Bool.and_eq_true] at hz
  obtain ⟨zz0, zz1, zz2⟩ := hz
  obtain ⟨ecs, e, rfl, ze, te, ke⟩ := rdw_arg Try.underlying26 rdw_ex (hval 0 26 v0 rfl rfl) h0 zz0
  obtain ⟨eA, ec, ee, re⟩ := te.parts
  obtain rfl : ecs = (exC e eA ec).toArray := Array.ext' (by simpa using ee)
  have o1 := rdw_arg_slice Try.underlying24 rdw_exs (hval 1 24 v1 rfl rfl) h1 zz1
  obtain ⟨l, ⟨lA, lc, el, cl, rl⟩, kl⟩ := o1
  obtain rfl := List.cons.inj el |>.1
  have o2 := rdw_arg_slice Try.underlying27 rdw_rows (hval 2 27 v2 rfl rfl) h2 zz2
  obtain ⟨env, ⟨envA, envc, eenv, cenv, renv⟩, kenv⟩ := o2
  obtain rfl := List.cons.inj eenv |>.1
  refine (evalTruths_walk e eA ec l lA lc env envA envc W ke kl kenv re rl renv).mono fun e W' ⟨he, hg⟩ => ?_
  subst he
  exact ⟨_, rfl, law_post hW' rfl rfl Try.underlying4 rfl rfl rfl laid_out reads (Grew.below hg)⟩

theorem over : Rows.evalTruthsRow.holds Try.pinned (OpenSpec.ofChange Rows.evalTruthsSpec) :=
  OpenClaim.holds_of_wide 4 Try.f4 rfl rfl rfl rfl rfl rfl rfl ⟨rfl, rfl, rfl, rfl, rfl⟩ rfl rfl rfl rfl rfl (by kernel_rfl) Try.func4 (by kernel_rfl)
    (of_decide_eq_true (by kernel_rfl)) (by unfold Func.isWrapper; first | (rw [if_pos (by decide +kernel)]; kernel_rfl) | (rw [if_neg (by decide +kernel)]; exact ⟨rfl, rfl⟩))
    (fun os started H enc _ => lifted os started H enc)

theorem proved : Rows.EvalTruthsSaid := over

end Go.Proofs.Ytddambfniaiogaa.evalTruths
