/- Layer 14: an aggregate's steps. Condition: counts within the bounds that are named. -/
import Derived.Test.YtddambfniaiogaaAggMath
import Derived.Test.YtddambfniaiogaaEval
import Derived.Deep.DeepCutAuto
namespace Go.Proofs.Ytddambfniaiogaa
open Go.RowKit
attribute [local go_sem] more_cell more_frozen more_more more_setCell more_of_drew more_of_drewN lt_more le_more past_cell past_cell2 past_frozen past_frozen2 past_setCell past_setCell2 mid_cell mid_frozen mid_setCell
attribute [local go_sem ↓] Go.wp_at_zero Go.wp_at_succ

theorem code14_any (f : Int) (w : World) : Gives Try.prog 34 #[.int .i64 f] w (.int .i64 f) := by
  unfold Gives
  go_enter Try.func34, Try.ntmps34
  go_wp2
  go_ret
  exact ⟨rfl, by (show Grew _ _; repeat (first | exact Grew.refl _ | refine Grew.alloc ?_ _ | refine Grew.drew ?_ | refine Grew.more ?_ _))⟩
def accV (a : AccS) : Value := .agg #[.int .i64 a.op, .int .i64 a.rows, .int .i64 a.whole, .bool a.wrong, .int .u64 (H a.z), .int .u64 (L a.z), .int .i64 a.zn, .int .i64 a.best.k, .int .i64 a.best.i, .string a.best.s]
theorem better_any (op : Int) (x y : Vl) (w : World) : Gives Try.prog 107 #[.int .i64 op, vlV x, vlV y] w (.bool (betterB op x y)) := by
  obtain ⟨k, i, s⟩ := x
  obtain ⟨k', i', s'⟩ := y
  have HO : Hid (∀ W, Gives Try.prog 166 #[.agg #[.int .i64 k, .int .i64 i, .string s], .agg #[.int .i64 k', .int .i64 i', .string s']] W (.int .i64 (ordV k i s k' i' s'))) := Lib.hid fun W => order_any _ _ _ _ _ _ W
  have HB : Hid (betterB op ⟨k, i, s⟩ ⟨k', i', s'⟩ = if op = 20 then decide (ordV k i s k' i' s' < 0) else decide (0 < ordV k i s k' i' s')) := Lib.hid rfl
  generalize betterB op ⟨k, i, s⟩ ⟨k', i', s'⟩ = r at *
  generalize ordV k i s k' i' s' = o at *
  unfold vlV Gives
  by_cases h : op = 20
  · have hr : r = decide (o < 0) := by rw [HB.out, if_pos h]
    subst hr h
    go_enter Try.func107, Try.ntmps107
    go_wp2_with (go_at_call 166; (with_reducible refine (HO.out _).grows.mono ?_); rintro e w1 ⟨rfl, hg1⟩; have HG1 := Lib.hid hg1; clear hg1)
    go_ret
    exact ⟨rfl, (((Grew.refl w).alloc _).alloc _).trans HG1.out⟩
  · have hr : r = decide (0 < o) := by rw [HB.out, if_neg h]
    have h' : (op == 20) = false := by simpa using h
    subst hr
    clear h HB
    go_enter Try.func107, Try.ntmps107
    go_wp2_with (go_at_call 166; (with_reducible refine (HO.out _).grows.mono ?_); rintro e w1 ⟨rfl, hg1⟩; have HG1 := Lib.hid hg1; clear hg1)
    go_ret
    exact ⟨rfl, (((Grew.refl w).alloc _).alloc _).trans HG1.out⟩
theorem start_any (op : Int) (w : World) : Gives Try.prog 35 #[.int .i64 op] w (accV (startS op)) := by
  unfold Gives accV startS zV
  simp only
  have h0 : H 0 = 0 := by decide
  have h1 : L 0 = 0 := by decide
  rw [h0, h1]
  go_enter Try.func35, Try.ntmps35
  go_wp2
  exact bodyPost_ret (v := .agg #[.int .i64 op, .int .i64 0, .int .i64 0, .bool false, .int .u64 0, .int .u64 0, .int .i64 0, .int .i64 0, .int .i64 0, .string ⟨#[]⟩]) (by simp [results, Try.results35, go_sem]) rfl ⟨rfl, by (show Grew _ _; repeat (first | exact Grew.refl _ | refine Grew.alloc ?_ _ | refine Grew.drew ?_ | refine Grew.more ?_ _))⟩
theorem none_any (a : AccS) (w : World) : Gives Try.prog 108 #[accV a] w (.tuple #[vlV zV, .int .i64 3]) := by
  unfold Gives accV vlV zV
  go_enter Try.func108, Try.ntmps108
  go_wp2
  exact bodyPost_ret (v := .tuple #[.agg #[.int .i64 0, .int .i64 0, .string ⟨#[]⟩], .int .i64 3]) (by simp [results, Try.results108, go_sem]) rfl ⟨rfl, by (show Grew _ _; repeat (first | exact Grew.refl _ | refine Grew.alloc ?_ _ | refine Grew.drew ?_ | refine Grew.more ?_ _))⟩
theorem all_any (a : AccS) (w : World) : Gives Try.prog 109 #[accV a] w (.tuple #[vlV ⟨1, a.rows, ⟨#[]⟩⟩, .int .i64 0]) := by
  obtain ⟨op, rows, whole, wrong, z, zn, bk, bi, bs⟩ := a
  unfold Gives accV vlV
  simp only
  have HI : Hid (∀ W, Gives Try.prog 167 #[.int .i64 (rows : Int)] W (.agg #[.int .i64 1, .int .i64 (rows : Int), .string ⟨#[]⟩])) := Lib.hid fun W => int_any _ W
  go_enter Try.func109, Try.ntmps109
  go_wp2_with fail
  refine (HI.out _).grows.mono ?_
  rintro e w1 ⟨rfl, hg1⟩
  have HG1 : Hid (Grew w w1) := Lib.hid ((((Grew.refl w).alloc _).alloc _).trans hg1)
  have HB1 : Hid (Blok w1 (w.heap.size + 1) 23 #[.int .i64 0, .int .i64 0, .string ⟨#[]⟩]) := Lib.hid ((Blok.new _ _ _ _ (by simp)).grew hg1)
  obtain ⟨p1, c0, c1, c2, d0, d1, d2⟩ := val_in HB1.out
  clear hg1
  go_wp2
  have hb := val_set HB1.out (.int .i64 1) (.int .i64 (rows : Int)) (.string ⟨#[]⟩)
  obtain ⟨_, r0, r1, r2, _, _, _⟩ := val_in hb
  exact bodyPost_ret (v := .tuple #[.agg #[.int .i64 1, .int .i64 (rows : Int), .string ⟨#[]⟩], .int .i64 0]) (by simp [results, Try.results109, go_sem, r0, r1, r2]) rfl ⟨rfl, grew_set3 HG1.out (by omega) _ _ _⟩
theorem some_any (a : AccS) (w : World) : Gives Try.prog 110 #[accV a] w (.tuple #[vlV ⟨1, a.whole, ⟨#[]⟩⟩, .int .i64 0]) := by
  obtain ⟨op, rows, whole, wrong, z, zn, bk, bi, bs⟩ := a
  unfold Gives accV vlV
  simp only
  have HI : Hid (∀ W, Gives Try.prog 167 #[.int .i64 (whole : Int)] W (.agg #[.int .i64 1, .int .i64 (whole : Int), .string ⟨#[]⟩])) := Lib.hid fun W => int_any _ W
  go_enter Try.func110, Try.ntmps110
  go_wp2_with fail
  refine (HI.out _).grows.mono ?_
  rintro e w1 ⟨rfl, hg1⟩
  have HG1 : Hid (Grew w w1) := Lib.hid ((((Grew.refl w).alloc _).alloc _).trans hg1)
  have HB1 : Hid (Blok w1 (w.heap.size + 1) 23 #[.int .i64 0, .int .i64 0, .string ⟨#[]⟩]) := Lib.hid ((Blok.new _ _ _ _ (by simp)).grew hg1)
  obtain ⟨p1, c0, c1, c2, d0, d1, d2⟩ := val_in HB1.out
  clear hg1
  go_wp2
  have hb := val_set HB1.out (.int .i64 1) (.int .i64 (whole : Int)) (.string ⟨#[]⟩)
  obtain ⟨_, r0, r1, r2, _, _, _⟩ := val_in hb
  exact bodyPost_ret (v := .tuple #[.agg #[.int .i64 1, .int .i64 (whole : Int), .string ⟨#[]⟩], .int .i64 0]) (by simp [results, Try.results110, go_sem, r0, r1, r2]) rfl ⟨rfl, grew_set3 HG1.out (by omega) _ _ _⟩
def extremeP (a : AccS) : Vl × Int := if a.whole = 0 then (zV, 0) else (a.best, 0)
theorem extreme_any (a : AccS) (w : World) : Gives Try.prog 112 #[accV a] w (.tuple #[vlV (extremeP a).1, .int .i64 (extremeP a).2]) := by
  obtain ⟨op, rows, whole, wrong, z, zn, bk, bi, bs⟩ := a
  unfold extremeP
  simp only
  by_cases h : whole = 0
  · rw [if_pos h]
    subst h
    unfold Gives accV vlV zV
    simp only
    go_enter Try.func112, Try.ntmps112
    go_wp2_with fail
    refine (null_any _).grows.mono ?_
    rintro e w1 ⟨rfl, hg1⟩
    have HG1 : Hid (Grew w w1) := Lib.hid ((((Grew.refl w).alloc _).alloc _).trans hg1)
    have HB1 : Hid (Blok w1 (w.heap.size + 1) 23 #[.int .i64 0, .int .i64 0, .string ⟨#[]⟩]) := Lib.hid ((Blok.new _ _ _ _ (by simp)).grew hg1)
    obtain ⟨p1, c0, c1, c2, d0, d1, d2⟩ := val_in HB1.out
    clear hg1
    go_wp2
    have hb := val_set HB1.out (.int .i64 0) (.int .i64 0) (.string ⟨#[]⟩)
    obtain ⟨_, r0, r1, r2, _, _, _⟩ := val_in hb
    exact bodyPost_ret (v := .tuple #[.agg #[.int .i64 0, .int .i64 0, .string ⟨#[]⟩], .int .i64 0]) (by simp [results, Try.results112, go_sem, r0, r1, r2]) rfl ⟨rfl, grew_set3 HG1.out (by omega) _ _ _⟩
  · rw [if_neg h]
    have h' : ((whole : Int) == 0) = false := by simpa using h
    clear h
    unfold Gives accV vlV
    simp only
    go_enter Try.func112, Try.ntmps112
    go_wp2
    exact bodyPost_ret (v := .tuple #[.agg #[.int .i64 bk, .int .i64 bi, .string bs], .int .i64 0]) (by simp [results, Try.results112, go_sem]) rfl ⟨rfl, by (show Grew _ _; repeat (first | exact Grew.refl _ | refine Grew.alloc ?_ _ | refine Grew.drew ?_ | refine Grew.more ?_ _))⟩
def totalP (a : AccS) : Vl × Int := if a.wrong = true then (zV, 3) else if a.whole = 0 then (zV, 0) else if fits a.z = true then (⟨1, a.z, ⟨#[]⟩⟩, 0) else (zV, 5)
set_option maxHeartbeats 1000000 in
theorem total_any (a : AccS) (hz : isW a.z) (w : World) : Gives Try.prog 111 #[accV a] w (.tuple #[vlV (totalP a).1, .int .i64 (totalP a).2]) := by
  obtain ⟨op, rows, whole, wrong, z, zn, bk, bi, bs⟩ := a
  unfold totalP
  simp only at hz ⊢
  cases wrong
  · rw [if_neg (by simp)]
    by_cases h : whole = 0
    · rw [if_pos h]
      subst h
      unfold Gives accV vlV zV
      simp only
      go_enter Try.func111, Try.ntmps111
      go_wp2_with fail
      refine (null_any _).grows.mono ?_
      rintro e w1 ⟨rfl, hg1⟩
      have HG1 : Hid (Grew w w1) := Lib.hid ((((Grew.refl w).alloc _).alloc _).trans hg1)
      have HB1 : Hid (Blok w1 (w.heap.size + 1) 23 #[.int .i64 0, .int .i64 0, .string ⟨#[]⟩]) := Lib.hid ((Blok.new _ _ _ _ (by simp)).grew hg1)
      obtain ⟨p1, c0, c1, c2, d0, d1, d2⟩ := val_in HB1.out
      clear hg1
      go_wp2
      have hb := val_set HB1.out (.int .i64 0) (.int .i64 0) (.string ⟨#[]⟩)
      obtain ⟨_, r0, r1, r2, _, _, _⟩ := val_in hb
      exact bodyPost_ret (v := .tuple #[.agg #[.int .i64 0, .int .i64 0, .string ⟨#[]⟩], .int .i64 0]) (by simp [results, Try.results111, go_sem, r0, r1, r2]) rfl ⟨rfl, grew_set3 HG1.out (by omega) _ _ _⟩
    · rw [if_neg h]
      have h' : ((whole : Int) == 0) = false := by simpa using h
      have HT : Hid (∀ W, Gives Try.prog 168 #[.agg #[.int .u64 (H z), .int .u64 (L z), .int .i64 zn]] W (.tuple #[.int .i64 (fitV z), .int .i64 (errF z)])) := Lib.hid fun W => totalS_any z zn hz W
      have HI : Hid (∀ W, Gives Try.prog 167 #[.int .i64 z] W (.agg #[.int .i64 1, .int .i64 z, .string ⟨#[]⟩])) := Lib.hid fun W => int_any _ W
      clear h hz
      unfold errF fitV at HT
      unfold accV vlV zV
      simp only
      generalize H z = hz at *
      generalize L z = lz at *
      unfold Gives
      cases hf : fits z
      · rw [hf] at HT
        simp only [Bool.false_eq_true, if_false] at HT ⊢
        go_enter Try.func111, Try.ntmps111
        go_wp2_with fail
        refine (HT.out _).grows.mono ?_
        rintro e w1 ⟨rfl, hg1⟩
        have HG1 : Hid (Grew w w1) := Lib.hid ((((Grew.refl w).alloc _).alloc _).trans hg1)
        have HB1 : Hid (Blok w1 (w.heap.size + 1) 23 #[.int .i64 0, .int .i64 0, .string ⟨#[]⟩]) := Lib.hid ((Blok.new _ _ _ _ (by simp)).grew hg1)
        obtain ⟨p1, c0, c1, c2, d0, d1, d2⟩ := val_in HB1.out
        clear hg1
        go_wp2
        have hb := val_set HB1.out (.int .i64 0) (.int .i64 0) (.string ⟨#[]⟩)
        obtain ⟨_, r0, r1, r2, _, _, _⟩ := val_in hb
        exact bodyPost_ret (v := .tuple #[.agg #[.int .i64 0, .int .i64 0, .string ⟨#[]⟩], .int .i64 5]) (by simp [results, Try.results111, go_sem, r0, r1, r2]) rfl ⟨rfl, grew_set3 HG1.out (by omega) _ _ _⟩
      · rw [hf] at HT
        simp only [if_true] at HT ⊢
        go_enter Try.func111, Try.ntmps111
        go_wp2_with fail
        refine (HT.out _).grows.mono ?_
        rintro e w1 ⟨rfl, hg1⟩
        have HG1 : Hid (Grew w w1) := Lib.hid ((((Grew.refl w).alloc _).alloc _).trans hg1)
        have HB1 : Hid (Blok w1 (w.heap.size + 1) 23 #[.int .i64 0, .int .i64 0, .string ⟨#[]⟩]) := Lib.hid ((Blok.new _ _ _ _ (by simp)).grew hg1)
        clear hg1
        go_wp2_with fail
        refine (HI.out _).grows.mono ?_
        rintro e w2 ⟨rfl, hg2⟩
        have HG2 := Lib.hid (HG1.out.trans hg2)
        have HB2 := Lib.hid (HB1.out.grew hg2)
        obtain ⟨p1, c0, c1, c2, d0, d1, d2⟩ := val_in HB2.out
        clear hg2
        go_wp2
        have hb := val_set HB2.out (.int .i64 1) (.int .i64 z) (.string ⟨#[]⟩)
        obtain ⟨_, r0, r1, r2, _, _, _⟩ := val_in hb
        exact bodyPost_ret (v := .tuple #[.agg #[.int .i64 1, .int .i64 z, .string ⟨#[]⟩], .int .i64 0]) (by simp [results, Try.results111, go_sem, r0, r1, r2]) rfl ⟨rfl, grew_set3 HG2.out (by omega) _ _ _⟩
  · rw [if_pos rfl]
    unfold Gives accV vlV zV
    simp only
    go_enter Try.func111, Try.ntmps111
    go_wp2
    exact bodyPost_ret (v := .tuple #[.agg #[.int .i64 0, .int .i64 0, .string ⟨#[]⟩], .int .i64 3]) (by simp [results, Try.results111, go_sem]) rfl ⟨rfl, by (show Grew _ _; repeat (first | exact Grew.refl _ | refine Grew.alloc ?_ _ | refine Grew.drew ?_ | refine Grew.more ?_ _))⟩
end Go.Proofs.Ytddambfniaiogaa
