/- The statement OrderCostsSaid: for every input the law returns true, and each argument reads as it did. No condition beyond the row's own. -/
import Derived.Test.YtbglmcebkpkccaaGreatDoorQOa
import Derived.Test.YtbglmcebkpkccaaGreatDoorQKE
import Derived.Test.YtbglmcebkpkccaaGreatDoorQNc
import Derived.Test.YtbglmcebkpkccaaGreatDoorTab
import Derived.Test.YtbglmcebkpkccaaGreatDoorFrame2
import Derived.Test.YtbglmcebkpkccaaGreatDoorTie
import Derived.Test.YtbglmcebkpkccaaGreatDoorCards
import Derived.ProofKit
import Derived.LaidMore
import Derived.Lib.LaidTab
import Derived.Stop.LaidErr
import Derived.Stop.Joined
import Derived.SevenTiedAt

/- Layer 30: the law of what any order costs. Condition: a query, what is said of tables, and a list in memory that is there; the turned signs as they are laid. -/
namespace Go.Proofs.YtbglmcebkpkccaaGreatDoor
open Go.RowKit
attribute [local go_sem] more_cell more_frozen more_more more_setCell more_of_drew more_of_drewN lt_more le_more past_cell past_cell2 past_frozen past_frozen2 past_setCell past_setCell2 mid_cell mid_frozen mid_setCell
attribute [local go_sem] fldC0 fldC1 fldS0
attribute [local go_sem ↓] Go.wp_at_zero Go.wp_at_succ

set_option maxHeartbeats 16000000 in
set_option maxRecDepth 100000 in
theorem orderCosts_walk (it : List Ex) (sr : List Fr) (wh : Ex) (gr : List Ex) (A : Option Addr) (k : Nat) (B : Option Addr) (j : Nat) (C : Option Addr) (c : Nat) (D : Option Addr) (d : Nat) (l : List Sst) (L : Option Addr) (kl : Nat) (set : List Int) (S : Option Addr) (ks : Nat) (w : World) (hks : set.length ≤ ks) (hl : LrgSd l)
    (rA : ExsR (PRow w) A it) (rB : FrsR (PRow w) B sr) (rC : ExsR (PRow w) C wh.l) (rD : ExsR (PRow w) D gr) (ra : SstsR (PRow w) L l) (rs : Row w S (iV set)) (htab : Lib.TabIs Tryz.prog w "trommel/cost.turned" .i64 [0, 1, 2, 5, 6, 3, 4]) :
    Gives Tryz.prog 4 #[.agg (qyC it sr wh gr A k B j C c D d), .slice L l.length kl, .slice S set.length ks] w (.bool true) := by
  have ht := turn_of htab
  have HMq : Hid (∀ W, Grew w W → Calls Tryz.prog 7 #[.agg (qyC it sr wh gr A k B j C c D d)] W (MuchR W (goodQ ⟨it, sr, wh, gr⟩))) := Lib.hid fun W hW => muchq_any it sr wh gr A k B j C c D d W (rA.grew hW) (rB.grew hW) (rC.grew hW) (rD.grew hW)
  have HM2 : Hid (∀ W, Grew w W → Calls Tryz.prog 8 #[.slice L l.length kl] W (MuchR W (l.length ≤ 16 ∧ FewSd l))) := Lib.hid fun W hW => rmuch29s_any l hl L kl W (ra.grew hW)
  have hlit : FewSd l → LitSd l := fun h s hs => ⟨by have := (h s hs).1; omega, fun c hc => by have := (h s hs).2 c hc; omega⟩
  have HLv : Hid (∀ W, Grew w W → Gives Tryz.prog 18 #[] W (.bool true)) := Lib.hid fun W hW => live30_any W (ht.grew hW)
  have HAll : Hid (goodQ ⟨it, sr, wh, gr⟩ → l.length ≤ 16 ∧ FewSd l → set.length ≤ 1000 → FewX (normX sr wh) ∧ (∀ W, Grew w W → Calls Tryz.prog 10 #[.agg (qyC it sr wh gr A k B j C c D d)] W (NormF W (normX sr wh))) ∧
      (∀ (x : Nm), FewX x → ∀ X kx B j C c D d E e W, Grew w W → XllR (PRow W) X x.scan → EdsR (PRow W) B x.edges →
        Gives Tryz.prog 19 #[.agg (nmC x X kx B j C c D d E e), .slice S set.length ks] W (.bool (decide (rightP x.scan.length set))) ∧
        Gives Tryz.prog 20 #[.agg (nmC x X kx B j C c D d E e), .slice S set.length ks] W (.bool (decide (rightP x.scan.length set))) ∧
        Gives Tryz.prog 21 #[.agg (nmC x X kx B j C c D d E e), .slice L l.length kl, .slice S set.length ks] W (.int .i64 (costS (scanK (heldAll l) x.scan) (sizeK (heldAll l) x.scan x.edges) set)) ∧
        Gives Tryz.prog 22 #[.agg (nmC x X kx B j C c D d E e), .slice L l.length kl, .slice S set.length ks] W (.int .i64 (costS (scanK (heldAll l) x.scan) (sizeK (heldAll l) x.scan x.edges) set)))) := Lib.hid fun hg hm hs =>
    ⟨fewX_of hg.src hg.on hg.wh, fun W hW => nrof_any it sr wh gr A k B j C c D d W (Nat.le_trans hg.src (by decide)) hg.on hg.wh (rB.grew hW) (rC.grew hW), fun x hx X kx B j C c D d E e W hW rX rE => by
      have h1 := hlit hm.2
      have h2 : l.length ≤ 1000000 := by have := hm.1; omega
      have h3 : x.scan.length ≤ 1000 := by have := hx.tabs; omega
      have hK := kcost_of l h2 h1 x hx.scan h3 hx.edges L kl X kx B j C c D d E e W (ra.grew hW) (ht.grew hW) rX rE
      have hR := rcost_of l h1 x hx.scan h3 hx.edges L kl X kx B j C c D d E e W (ra.grew hW) rX rE
      exact ⟨right_any x h3 set (by omega) S ks X kx B j C c D d E e W (rs.grew hW), rright_any x h3 set (by omega) S ks X kx B j C c D d E e W (rs.grew hW), ordCost_any set hs S ks hks _ _ _ x X kx B j C c D d E e W (rs.grew hW) hK, rordCost_any set hs S ks hks _ _ _ x X kx B j C c D d E e W (rs.grew hW) hR⟩⟩
  obtain ⟨W0, hW0⟩ : ∃ W0, W0 = w.alloc (.cells (qyC it sr wh gr A k B j C c D d) 29) := ⟨_, rfl⟩
  have HG0 : Hid (Grew w W0) := Lib.hid (by rw [hW0]; exact (Grew.refl w).alloc _)
  have HB0 : Hid (Blok W0 w.heap.size 29 (qyC it sr wh gr A k B j C c D d)) := Lib.hid (by rw [hW0]; exact Blok.new _ _ _ _ rfl)
  obtain ⟨xl, x0, x1, x2, x3, x4, x5, x6, x7, x8, x9, x10, x11⟩ := qy_in HB0.out
  clear rA rB rC rD ra rs ht htab hl hlit
  unfold qyC at HMq hW0 ⊢
  unfold Gives
  go_enter Tryz.func4, Tryz.ntmps4
  go_upto_region 1 with fail
  rw [← hW0]
  clear hW0
  go_wp2_with fail
  refine (HMq.out _ HG0.out).mono ?_
  rintro e w1 ⟨t1, rfl, hg1, hq1⟩
  have HG1 := Lib.hid (HG0.out.trans hg1)
  have HB1 := Lib.hid (HB0.out.grew hg1)
  clear hg1 HMq xl x0 x1 x2 x3 x4 x5 x6 x7 x8 x9 x10 x11
  cases t1
  rotate_left
  · go_wp2_with (go_at_call 18; (with_reducible refine (HLv.out _ HG1.out).grows.mono ?_); rintro e9 w9 ⟨rfl, hg9⟩; have HG9 := Lib.hid hg9; clear hg9)
    go_ret
    exact ⟨rfl, HG1.out.trans HG9.out⟩
  have hgq : goodQ ⟨it, sr, wh, gr⟩ := hq1 rfl
  clear hq1
  go_wp2_with fail
  refine (HM2.out _ HG1.out).mono ?_
  rintro e w2 ⟨t2, rfl, hg2, hm⟩
  have HG2 := Lib.hid (HG1.out.trans hg2)
  have HB2 := Lib.hid (HB1.out.grew hg2)
  clear hg2 HM2
  cases t2
  rotate_left
  · clear hm
    go_wp2_with (go_at_call 18; (with_reducible refine (HLv.out _ HG2.out).grows.mono ?_); rintro e9 w9 ⟨rfl, hg9⟩; have HG9 := Lib.hid hg9; clear hg9)
    go_ret
    exact ⟨rfl, HG2.out.trans HG9.out⟩
  have hm2 := hm rfl
  clear hm
  by_cases hset : 8 < set.length
  · have h30 : decide ((8 : Int) < (set.length : Int)) = true := decide_eq_true (by omega)
    clear hgq hm2
    go_wp2_with (go_at_call 18; (with_reducible refine (HLv.out _ HG2.out).grows.mono ?_); rintro e9 w9 ⟨rfl, hg9⟩; have HG9 := Lib.hid hg9; clear hg9)
    go_ret
    exact ⟨rfl, HG2.out.trans HG9.out⟩
  have h30 : decide ((8 : Int) < (set.length : Int)) = false := decide_eq_false (by omega)
  obtain ⟨hfx, hof, hkx⟩ := HAll.out hgq hm2 (by omega)
  have HOf := Lib.hid hof
  have HK := Lib.hid (hkx _ hfx)
  clear HAll hfx hof hkx hgq hm2
  generalize normX sr wh = x at *
  unfold qyC at HOf
  obtain ⟨xl, x0, x1, x2, x3, x4, x5, x6, x7, x8, x9, x10, x11⟩ := qy_in HB2.out
  go_upto_region 4 with (go_at_call 10; (with_reducible refine (HOf.out _ HG2.out).mono ?_); rintro e2 w3 ⟨A1, k1, B1, j1, C1, c1, D1, d1, E1, f1, rfl, hg3, hm3⟩; unfold nmC)
  obtain ⟨W4, hW4⟩ : ∃ W4, W4 = w3.alloc (.cells (nmC x A1 k1 B1 j1 C1 c1 D1 d1 E1 f1) 39) := ⟨_, rfl⟩
  have hg4 : Grew w3 W4 := by rw [hW4]; exact (Grew.refl _).alloc _
  have HX : Hid (Blok W4 w3.heap.size 39 (nmC x A1 k1 B1 j1 C1 c1 D1 d1 E1 f1)) := Lib.hid (by rw [hW4]; exact Blok.new _ _ _ _ rfl)
  have HG4 : Hid (Grew w W4) := Lib.hid (HG2.out.trans (hg3.trans hg4))
  have HKx := Lib.hid fun W (hW : Grew W4 W) => HK.out A1 k1 B1 j1 C1 c1 D1 d1 E1 f1 W (HG4.out.trans hW) ((hm3.scan.grew hg4).grew hW) ((hm3.edges.grew hg4).grew hW)
  unfold nmC at hW4
  rw [← hW4]
  clear hW4 hg3 hm3 hg4 HG2 HB2 HOf HK xl x0 x1 x2 x3 x4 x5 x6 x7 x8 x9 x10 x11
  generalize hgx : w3.heap.size = gx at *
  clear hgx
  generalize decide (rightP x.scan.length set) = qr at *
  generalize costS (scanK (heldAll l) x.scan) (sizeK (heldAll l) x.scan x.edges) set = qz at *
  unfold nmC at HKx
  have H1 := Lib.hid fun W (hW : Grew W4 W) => (HKx.out W hW).1
  have H2 := Lib.hid fun W (hW : Grew W4 W) => (HKx.out W hW).2.1
  have H3 := Lib.hid fun W (hW : Grew W4 W) => (HKx.out W hW).2.2.1
  have H4 := Lib.hid fun W (hW : Grew W4 W) => (HKx.out W hW).2.2.2
  clear HKx
  have hS0 : Grew W4 W4.drew := (Grew.refl W4).drew
  have hbb : (qr == qr) = true := by simp
  refine wp_region_S (fun W => Grew W4 W) (by kernel_rfl) ?_
  refine held_take 0 (v := ?_) rfl (by kernel_rfl) (by kernel_rfl) (by kernel_rfl) (fun _ _ _ h => h) (by rfl) ?_ hS0 ?_
  rotate_left
  · (intro W hW; obtain ⟨x0, m0, m1, m2, m3, m4, m5⟩ := nm6 (HX.out.grew hW); go_simp; with_reducible rfl)
  refine held_take 1 (v := ?_) rfl (by kernel_rfl) (by kernel_rfl) (by kernel_rfl) (fun _ _ _ h => h) (by rfl) ?_ hS0 ?_
  rotate_left
  · (intro W hW; obtain ⟨x0, m0, m1, m2, m3, m4, m5⟩ := nm6 (HX.out.grew hW); go_simp; with_reducible rfl)
  refine held_take 3 (v := ?_) rfl (by kernel_rfl) (by kernel_rfl) (by kernel_rfl) (fun _ _ _ h => h) (by rfl) ?_ hS0 ?_
  rotate_left
  · (intro W hW; obtain ⟨x0, m0, m1, m2, m3, m4, m5⟩ := nm6 (HX.out.grew hW); go_simp; with_reducible rfl)
  refine held_take 4 (v := ?_) rfl (by kernel_rfl) (by kernel_rfl) (by kernel_rfl) (fun _ _ _ h => h) (by rfl) ?_ hS0 ?_
  rotate_left
  · (intro W hW; obtain ⟨x0, m0, m1, m2, m3, m4, m5⟩ := nm6 (HX.out.grew hW); go_simp; with_reducible rfl)
  refine held_norm (a' := ?_) ?_ ?_
  rotate_left
  · (go_simp; with_reducible rfl)
  refine held_call 2 (by kernel_rfl) rfl (by rfl) (fun K hK => ?_)
  go_simp
  go_wp2_with ((go_at_call 19; (with_reducible refine (H1.out _ hS0).grows.mono ?_); rintro en v1 ⟨rfl, hgn⟩; have hS1 := hS0.trans hgn))
  refine hK.out _ _ hS1 ?_
  clear hK K
  refine held_call 5 (by kernel_rfl) rfl (by rfl) (fun K hK => ?_)
  go_simp
  go_wp2_with ((go_at_call 20; (with_reducible refine (H2.out _ hS1).grows.mono ?_); rintro en v2 ⟨rfl, hgn2⟩; have hS2 := hS1.trans hgn2))
  refine hK.out _ _ hS2 ?_
  clear hK K
  refine held_take 6 (v := ?_) rfl (by kernel_rfl) (by kernel_rfl) (by kernel_rfl) (fun _ _ _ h => h) (by rfl) ?_ hS2 ?_
  rotate_left
  · (intro W hW; go_simp; with_reducible rfl)
  refine held_take 7 (v := ?_) rfl (by kernel_rfl) (by kernel_rfl) (by kernel_rfl) (fun _ _ _ h => h) (by rfl) ?_ hS2 ?_
  rotate_left
  · (intro W hW; go_simp; with_reducible rfl)
  refine held_norm (a' := ?_) ?_ ?_
  rotate_left
  · (go_simp; with_reducible rfl)
  refine held_take 8 (v := ?_) rfl (by kernel_rfl) (by kernel_rfl) (by kernel_rfl) (fun _ _ _ h => h) (by rfl) ?_ hS2 ?_
  rotate_left
  · (intro W hW; obtain ⟨x0, m0, m1, m2, m3, m4, m5⟩ := nm6 (HX.out.grew hW); go_simp; with_reducible rfl)
  refine held_take 9 (v := ?_) rfl (by kernel_rfl) (by kernel_rfl) (by kernel_rfl) (fun _ _ _ h => h) (by rfl) ?_ hS2 ?_
  rotate_left
  · (intro W hW; obtain ⟨x0, m0, m1, m2, m3, m4, m5⟩ := nm6 (HX.out.grew hW); go_simp; with_reducible rfl)
  refine held_take 10 (v := ?_) rfl (by kernel_rfl) (by kernel_rfl) (by kernel_rfl) (fun _ _ _ h => h) (by rfl) ?_ hS2 ?_
  rotate_left
  · (intro W hW; obtain ⟨x0, m0, m1, m2, m3, m4, m5⟩ := nm6 (HX.out.grew hW); go_simp; with_reducible rfl)
  refine held_norm (a' := ?_) ?_ ?_
  rotate_left
  · (go_simp; with_reducible rfl)
  refine held_take 12 (v := ?_) rfl (by kernel_rfl) (by kernel_rfl) (by kernel_rfl) (fun _ _ _ h => h) (by rfl) ?_ hS2 ?_
  rotate_left
  · (intro W hW; obtain ⟨x0, m0, m1, m2, m3, m4, m5⟩ := nm6 (HX.out.grew hW); go_simp; with_reducible rfl)
  refine held_take 13 (v := ?_) rfl (by kernel_rfl) (by kernel_rfl) (by kernel_rfl) (fun _ _ _ h => h) (by rfl) ?_ hS2 ?_
  rotate_left
  · (intro W hW; obtain ⟨x0, m0, m1, m2, m3, m4, m5⟩ := nm6 (HX.out.grew hW); go_simp; with_reducible rfl)
  refine held_take 14 (v := ?_) rfl (by kernel_rfl) (by kernel_rfl) (by kernel_rfl) (fun _ _ _ h => h) (by rfl) ?_ hS2 ?_
  rotate_left
  · (intro W hW; obtain ⟨x0, m0, m1, m2, m3, m4, m5⟩ := nm6 (HX.out.grew hW); go_simp; with_reducible rfl)
  refine held_norm (a' := ?_) ?_ ?_
  rotate_left
  · (go_simp; with_reducible rfl)
  refine held_call 11 (by kernel_rfl) rfl (by rfl) (fun K hK => ?_)
  go_simp
  go_wp2_with ((go_at_call 21; (with_reducible refine (H3.out _ hS2).grows.mono ?_); rintro en v3 ⟨rfl, hgn3⟩; have hS3 := hS2.trans hgn3))
  refine hK.out _ _ hS3 ?_
  clear hK K
  refine held_call 15 (by kernel_rfl) rfl (by rfl) (fun K hK => ?_)
  go_simp
  go_wp2_with ((go_at_call 22; (with_reducible refine (H4.out _ hS3).grows.mono ?_); rintro en v4 ⟨rfl, hgn4⟩; have hS4 := hS3.trans hgn4))
  refine hK.out _ _ hS4 ?_
  clear hK K
  refine held_take 16 (v := ?_) rfl (by kernel_rfl) (by kernel_rfl) (by kernel_rfl) (fun _ _ _ h => h) (by rfl) ?_ hS4 ?_
  rotate_left
  · (intro W hW; go_simp; with_reducible rfl)
  refine held_take 17 (v := ?_) rfl (by kernel_rfl) (by kernel_rfl) (by kernel_rfl) (fun _ _ _ h => h) (by rfl) ?_ hS4 ?_
  rotate_left
  · (intro W hW; go_simp; with_reducible rfl)
  refine held_take 18 (v := ?_) rfl (by kernel_rfl) (by kernel_rfl) (by kernel_rfl) (fun _ _ _ h => h) (by rfl) ?_ hS4 ?_
  rotate_left
  · (intro W hW; go_simp; with_reducible rfl)
  refine held_norm (a' := ?_) ?_ ?_
  rotate_left
  · (go_simp; with_reducible rfl)
  refine held_call 19 (by kernel_rfl) rfl (by rfl) (fun K hK => ?_)
  go_simp
  go_wp2_with ((go_at_call 18; (with_reducible refine (HLv.out _ (HG4.out.trans hS4)).grows.mono ?_); rintro en v7 ⟨rfl, hgn7⟩; have hS7 := hS4.trans hgn7))
  refine hK.out _ _ hS7 ?_
  clear hK K
  refine held_take 20 (v := ?_) rfl (by kernel_rfl) (by kernel_rfl) (by kernel_rfl) (fun _ _ _ h => h) (by rfl) ?_ hS7 ?_
  rotate_left
  · (intro W hW; go_simp; with_reducible rfl)
  refine held_take 21 (v := ?_) rfl (by kernel_rfl) (by kernel_rfl) (by kernel_rfl) (fun _ _ _ h => h) (by rfl) ?_ hS7 ?_
  rotate_left
  · (intro W hW; go_simp; with_reducible rfl)
  refine held_norm (a' := ?_) ?_ ?_
  rotate_left
  · (go_simp; with_reducible rfl)
  refine held_done (by kernel_rfl) ?_
  have HGf := Lib.hid (HG4.out.trans hS7)
  clear hS7 hS4 hS3 hS2 hS1 hS0 hgn hgn2 hgn3 hgn4 hgn7
  go_wp2
  go_ret
  exact ⟨rfl, HGf.out⟩
end Go.Proofs.YtbglmcebkpkccaaGreatDoor

namespace Go.Proofs.YtbglmcebkpkccaaGreatDoor.orderCosts
open Go.RowKit Go.ChangeShapes Go.WideShapes Go.ChangeAt Go.Joins

theorem reads : ∀ t ∈ Tryz.f4.params.toList, Tryz.prog.readableRec t = true ∧ t < Tryz.prog.types.size := by
  rw [Tryz.params4]
  intro t ht
  simp only [List.mem_cons, List.not_mem_nil, or_false] at ht
  rcases ht with rfl | rfl | rfl
  all_goals exact ⟨by kernel_rfl, of_decide_eq_true (by kernel_rfl)⟩

/-- The door's own heap meets the condition. -/
theorem door_met (os : Os) (args : Array Value) : laidMetH Tryz.prog Rows.orderCostsRow.laid ((World.doorLaid Tryz.prog 600 os).forCall (fun _ _ => 0) ⟨#[], args, []⟩).memory :=
  laidMetH_of_parts3 (fuel := 8) (laidMet_of_run' 8 (by kernel_rfl) (by kernel_rfl)) (by kernel_rfl) (by kernel_rfl)
/-- What the condition gives a walk: the table. -/
theorem of_laid {W : World} (h : laidMetH Tryz.prog Rows.orderCostsRow.laid W) : Lib.TabIs Tryz.prog W "trommel/cost.turned" .i64 [0, 1, 2, 5, 6, 3, 4] := by
  rw [MakeChecks.laidMetH_plain _ _ _ (by kernel_rfl)] at h
  have h2 : laidMet Tryz.prog (("trommel/cost.turned", Lib.tabData .i64 [0, 1, 2, 5, 6, 3, 4]) :: []) W := h
  exact Lib.tabIs_of_head (g := 3) (t := 157) (e := 3) (n := 7) (by kernel_rfl) (by kernel_rfl) (by kernel_rfl) (by kernel_rfl) (by kernel_rfl) (by kernel_rfl) h2
set_option maxRecDepth 100000 in
theorem lifted (os : Os) (started : os.Started) (H : Type) (enc : TypeId × Value → H) :
    ReturnsInHanded {} Tryz.checked os 4 .any (fun w args => (Rows.orderCostsSpec.pre enc Tryz.prog Tryz.f4 [] false w args ∧ laidMetH Tryz.prog Rows.orderCostsRow.laid w) ∧ sizedMet enc Tryz.prog Tryz.f4 (OpenSpec.ofChange Rows.orderCostsSpec) false w args)
      (Rows.orderCostsSpec.post enc Tryz.prog Tryz.f4 false true false false) := by
  refine returnsInHanded_of_change_and (C := Tryz.checked) (X := fun w _ => laidMetH Tryz.prog Rows.orderCostsRow.laid w) (fun _ _ _ hh h => h.of_heap hh) own started (by kernel_rfl) Tryz.func4
    (ChangeSpec.witness_shaped (enc := enc) (C := Tryz.checked) (os := os) (X := fun w _ => laidMetH Tryz.prog Rows.orderCostsRow.laid w) false (World.doorLaid Tryz.prog 600 os) #[.agg #[.slice none 0 0, .slice none 0 0, .int .i64 0, .string ByteArray.empty, .string ByteArray.empty, .int .i64 0, .int .i64 0, .int .i64 0, .int .i64 0, .string ByteArray.empty, .slice none 0 0, .slice none 0 0], .slice none 0 0, .slice none 0 0] 8 rfl (World.shaped_of_RefB (by kernel_rfl) (by kernel_rfl)) (by kernel_rfl) (by kernel_rfl) (by kernel_rfl) (door_met os _)) ?_
  intro W base args ds gs before hval0 hW hcnd hsz0 hL _
  have hval : ∀ (j : Nat) t v, Tryz.f4.params[j]? = some t → args[j]? = some v → Value.okWide Tryz.prog W .any base t v := hval0
  have hW' := hW
  obtain ⟨p, q, hA0, hV, hpq, hfz, hnd⟩ := hW
  have hA : DataW.TrodAll enc Tryz.prog W 0 (fun _ => true) true Tryz.f4.params.toList args.toList ds p := hA0
  rw [Tryz.params4] at hA hval
  obtain ⟨v0, vs0, d0, ds0, p0, q0, hargs, rfl, rfl, h0, r0⟩ := trodAll_cons hA
  obtain ⟨v1, vs1, d1, ds1, p1, q1, rfl, rfl, rfl, h1, r1⟩ := trodAll_cons r0
  obtain ⟨v2, vs2, d2, ds2, p2, q2, rfl, rfl, rfl, h2, r2⟩ := trodAll_cons r1
  obtain ⟨rfl, rfl, rfl⟩ := trodAll_nil r2
  obtain rfl : args = #[v0, v1, v2] := by cases args; simp_all
  obtain ⟨rfl, rfl⟩ := trodVars_none hV
  have hz : (DataW.weightsEach Tryz.prog [29, 30, 31] [d0, d1, d2]).all (· ≤ reachBytes) = true := hsz0
  simp only [DataW.weightsEach, List.all_append, List.append_nil, Bool.and_eq_true] at hz
  obtain ⟨zz0, zz1, zz2⟩ := hz
  obtain ⟨qcs, q, rfl, zq, qA, qk, qB, qj, qC, qc, qD, qd, eq, rq1, rq2, rq3, rq4⟩ := rd_arg Tryz.underlying29 rd_query (hval 0 29 v0 rfl rfl) h0
  obtain rfl : qcs = qyC q.items q.src q.wh q.group qA qk qB qj qC qc qD qd := Array.ext' (by rw [eq]; rfl)
  have o1 := rdw_arg_slice Tryz.underlying30 rdw_ssts (hval 1 30 v1 rfl rfl) h1 zz1
  obtain ⟨s, ⟨sA, sc, es, cs, rs⟩, ks⟩ := o1
  obtain rfl := List.cons.inj es |>.1
  have o2 := open_islice Tryz.underlying31 Tryz.underlying3 (by kernel_rfl) (hval 2 31 v2 rfl rfl) h2
  obtain ⟨tA, tc, tl, rfl, zt, rt, wt, st⟩ := o2
  have hks := open_islice_capO Tryz.underlying31 Tryz.underlying3 (by kernel_rfl) h2
  have htab := of_laid hL
  refine (orderCosts_walk q.items q.src q.wh q.group qA qk qB qj qC qc qD qd s sA sc tl tA tc W hks ks rq1 rq2 rq3 rq4 rs rt htab).mono fun e W' ⟨he, hg⟩ => ?_
  subst he
  exact ⟨_, rfl, law_post hW' rfl rfl Tryz.underlying4 rfl rfl rfl laid_out reads (Grew.below hg)⟩

theorem over : Rows.orderCostsRow.holds Tryz.pinned (OpenSpec.ofChange Rows.orderCostsSpec) :=
  OpenClaim.holds_of_wide 4 Tryz.f4 rfl rfl rfl rfl rfl rfl rfl ⟨rfl, rfl, rfl, rfl, rfl⟩ rfl rfl rfl rfl rfl (by kernel_rfl) Tryz.func4 (by kernel_rfl)
    (of_decide_eq_true (by kernel_rfl)) (by unfold Func.isWrapper; first | (rw [if_pos (by decide +kernel)]; kernel_rfl) | (rw [if_neg (by decide +kernel)]; exact ⟨rfl, rfl⟩))
    (fun os started H enc _ => lifted os started H enc)

theorem proved : Rows.OrderCostsCardSaid :=
  Claim7.holds_tied_plain_at .later [] [.data] true (true, "3803dd5eadb1622ac1cf9f762e3c69a7ba13d79eecce88738eed1112e3ea3d3e") false
    over (fun _ h => by cases h) (by kernel_rfl) (fun _ h => by cases h) orderCosts_row_tie rfl ⟨rfl, rfl⟩ (by kernel_rfl) rfl
    (fun f fn hf hfn => by
      obtain rfl : f = 4 := Option.some.inj ((show Tryz.prog.funcNamed "trommel/trommellaw30.OrderCosts" = some 4 by kernel_rfl).symm.trans hf) |>.symm
      obtain rfl : fn = Tryz.f4 := (Option.some.inj (Tryz.func4.symm.trans hfn)).symm
      exact ⟨by kernel_rfl, fun j t ht => by
        rw [Tryz.params4] at ht
        have hm : t ∈ [29, 30, 31] := by simpa using Array.mem_of_getElem? ht
        have hall : ([29, 30, 31].all fun u => !Tryz.prog.wantsStandIn u) = true := by kernel_rfl
        exact (show Tryz.prog.wantsStandIn t = false by simpa using List.all_eq_true.1 hall t hm)⟩)
    (by kernel_rfl)

end Go.Proofs.YtbglmcebkpkccaaGreatDoor.orderCosts
