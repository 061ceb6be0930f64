/- The statement OrderLeastSaid: for every input the law returns true, and each argument reads as it did. No condition beyond the row's own. -/
import Derived.Test.YtbglmcebkpkccaaDoorQOa
import Derived.Test.YtbglmcebkpkccaaDoorQKE
import Derived.Test.YtbglmcebkpkccaaDoorQNc
import Derived.Test.YtbglmcebkpkccaaDoorTab
import Derived.Test.YtbglmcebkpkccaaDoorFrame2
import Derived.Test.YtbglmcebkpkccaaDoorTie
import Derived.Test.YtbglmcebkpkccaaDoorCards
import Derived.ProofKit
import Derived.LaidMore
import Derived.Lib.LaidTab
import Derived.Stop.LaidErr
import Derived.Stop.Joined
import Derived.SevenTiedAt

/- Layer 30: the law that no order costs less than the best one. Condition: a query, what is said of tables, and a list in memory that is there; the turned signs as they are laid. -/
namespace Go.Proofs.YtbglmcebkpkccaaDoor
open Go.RowKit
attribute [local go_sem] more_cell more_frozen more_more more_setCell more_of_drew more_of_drewN lt_more le_more past_cell past_cell2 past_frozen past_frozen2 past_setCell past_setCell2 mid_cell mid_frozen mid_setCell
attribute [local go_sem] fldC0 fldC1 fldS0
attribute [local go_sem ↓] Go.wp_at_zero Go.wp_at_succ

theorem rhas21_big (l : List Int) (v : Int) (A : Option Addr) (k : Nat) (hl : l.length ≤ 1000000000000000) (w : World) (ra : Row w A (iV l)) :
    Gives Tryd.prog 20 #[.slice A l.length k, .int .i64 v] w (.bool (decide (v ∈ l))) := by
  have RA := Lib.hid ra
  obtain ⟨t, ht⟩ : ∃ t, decide (v ∈ l) = t := ⟨_, rfl⟩
  rw [ht]
  have HT := Lib.hid ht
  clear ra ht
  unfold Gives
  go_enter Tryd.func20, Tryd.ntmps20
  go_wp2
  go_loopw [5] (fun i wr => HasAt w l v i wr) (fun i _ => l.length - (intOf i).toNat)
  case atStart => exact ⟨0, Nat.zero_le _, rfl, Grew.refl w, by simp⟩
  case round =>
    obtain ⟨j, hj, rfl, hg, hn⟩ := hrel
    have HG := Lib.hid hg
    have HN := Lib.hid hn
    clear hg hn
    by_cases h : j < l.length
    · obtain ⟨b, o, rfl, hb, hc⟩ := rowI_at (RA.out.grew HG.out) h
      have HNx := Lib.hid (not_take h HN.out)
      have HY : Hid (l[j] = v → t = true) := Lib.hid fun e => by rw [← HT.out, ← e]; exact decide_eq_true (List.getElem_mem h)
      clear HN
      generalize l[j] = x at *
      by_cases e : x = v
      · obtain rfl := HY.out e
        have e1 : (x == v) = true := by simpa using e
        clear HNx HY e
        go_wp2
        go_ret
        exact ⟨rfl, HG.out⟩
      · have HN2 := Lib.hid (HNx.out e)
        have e1 : (x == v) = false := by simpa using e
        clear HNx HY e
        go_wp2
        exact ⟨⟨j + 1, by omega, by go_num, HG.out, HN2.out⟩, by simp only [intOf]; omega⟩
    · obtain rfl : j = l.length := by omega
      rw [List.take_length] at HN
      obtain rfl : t = false := by rw [← HT.out]; exact decide_eq_false HN.out
      clear HN HT
      go_wp2
      go_ret
      exact ⟨rfl, HG.out⟩
set_option maxHeartbeats 2000000 in
theorem rright_big (x : Nm) (hx : x.scan.length ≤ 1000) (l : List Int) (hl : l.length ≤ 1000000000000000) (S : Option Addr) (ks : Nat) (X : Option Addr) (kx : Nat) (B : Option Addr) (j : Nat) (C : Option Addr) (c : Nat) (D : Option Addr) (d : Nat) (E : Option Addr) (e : Nat) (w : World) (rs : Row w S (iV l)) :
    Gives Tryd.prog 8 #[.agg (nmC x X kx B j C c D d E e), .slice S l.length ks] w (.bool (decide (rightP x.scan.length l))) := by
  have HH : Hid (∀ (t : Int) W, Grew w W → Gives Tryd.prog 20 #[.slice S l.length ks, .int .i64 t] W (.bool (decide (t ∈ l)))) := Lib.hid fun t W hW => rhas21_big l t S ks hl W (rs.grew hW)
  obtain ⟨W0, hW0⟩ : ∃ W0, W0 = w.alloc (.cells (nmC x X kx B j C c D d E e) 39) := ⟨_, rfl⟩
  have HG0 : Hid (Grew w W0) := Lib.hid (by rw [hW0]; exact (Grew.refl w).alloc _)
  have HX0 : Hid (Blok W0 w.heap.size 39 (nmC x X kx B j C c D d E e)) := Lib.hid (by rw [hW0]; exact Blok.new _ _ _ _ rfl)
  clear rs
  unfold nmC at hW0 ⊢
  obtain ⟨fin, hfin⟩ : ∃ fin, decide (rightP x.scan.length l) = fin := ⟨_, rfl⟩
  rw [hfin]
  have HF := Lib.hid hfin
  clear hfin
  unfold Gives
  go_enter Tryd.func8, Tryd.ntmps8
  go_upto_region 1 with fail
  rw [← hW0]
  clear hW0
  go_wp2
  go_loopw [5] (fun i wr => RrAt W0 x.scan.length l i wr) (fun i _ => x.scan.length - (intOf i).toNat)
  case atStart => exact ⟨0, Nat.zero_le _, rfl, Grew.refl _, fun t ht => absurd ht (Nat.not_lt_zero _)⟩
  case round =>
    obtain ⟨q, hq, rfl, hg, hall⟩ := hrel
    have HG := Lib.hid hg
    have HA := Lib.hid hall
    clear hg hall
    obtain ⟨x0, m0, m1, m2, m3, m4, m5⟩ := nm6 (HX0.out.grew HG.out)
    generalize hNl : x.scan.length = n at *
    clear hNl
    by_cases h : q < n
    · by_cases hq2 : (q : Int) ∈ l
      · have HHq : Hid (∀ W, Grew w W → Gives Tryd.prog 20 #[.slice S l.length ks, .int .i64 q] W (.bool true)) := Lib.hid fun W hW => by have := HH.out q W hW; rwa [decide_eq_true hq2] at this
        have HA2 : Hid (∀ t : Nat, t < q + 1 → (t : Int) ∈ l) := Lib.hid fun t ht => by
          rcases Nat.lt_or_ge t q with h1 | h1
          · exact HA.out t h1
          · obtain rfl : t = q := by omega
            exact hq2
        clear hq2
        go_wp2_with (go_at_call 20; (with_reducible refine (HHq.out _ (HG0.out.trans HG.out)).grows.mono ?_); rintro en w8 ⟨rfl, hg8⟩; have HG8 := Lib.hid (HG.out.trans hg8); clear hg8)
        exact ⟨⟨q + 1, by omega, by go_num, HG8.out, HA2.out⟩, by simp only [intOf]; omega⟩
      · have HHq : Hid (∀ W, Grew w W → Gives Tryd.prog 20 #[.slice S l.length ks, .int .i64 q] W (.bool false)) := Lib.hid fun W hW => by have := HH.out q W hW; rwa [decide_eq_false hq2] at this
        have hf : fin = false := by rw [← HF.out]; exact decide_eq_false fun hr => hq2 (hr.1 q h)
        subst hf
        clear hq2
        go_wp2_with (go_at_call 20; (with_reducible refine (HHq.out _ (HG0.out.trans HG.out)).grows.mono ?_); rintro en w8 ⟨rfl, hg8⟩; have HG8 := Lib.hid (HG.out.trans hg8); clear hg8)
        go_ret
        exact ⟨rfl, HG0.out.trans HG8.out⟩
    · obtain rfl : q = n := by omega
      by_cases hln : l.length = q
      · have hf : fin = true := by rw [← HF.out]; exact decide_eq_true ⟨HA.out, hln⟩
        have e1 : ((l.length : Int) == (q : Int)) = true := by rw [hln]; simp
        subst hf
        clear hln
        go_wp2
        go_ret
        exact ⟨rfl, HG0.out.trans HG.out⟩
      · have hf : fin = false := by rw [← HF.out]; exact decide_eq_false fun hr => hln hr.2
        have e1 : ((l.length : Int) == (q : Int)) = false := by simp; omega
        subst hf
        go_wp2
        go_ret
        exact ⟨rfl, HG0.out.trans HG.out⟩
set_option maxHeartbeats 16000000 in
set_option maxRecDepth 100000 in
theorem orderLeast_walk (it : List Ex) (sr : List Fr) (wh : Ex) (gr : List Ex) (A : Option Addr) (k : Nat) (B : Option Addr) (j : Nat) (C : Option Addr) (c : Nat) (D : Option Addr) (d : Nat) (l : List Sst) (L : Option Addr) (kl : Nat) (set : List Int) (S : Option Addr) (ks : Nat) (w : World) (hks : set.length ≤ ks) (hsl : set.length ≤ 1000000000000000) (hl : LrgSd l)
    (rA : ExsR (PRow w) A it) (rB : FrsR (PRow w) B sr) (rC : ExsR (PRow w) C wh.l) (rD : ExsR (PRow w) D gr) (ra : SstsR (PRow w) L l) (rs : Row w S (iV set)) (htab : Lib.TabIs Tryd.prog w "trommel/cost.turned" .i64 [0, 1, 2, 5, 6, 3, 4]) :
    Gives Tryd.prog 3 #[.agg (qyC it sr wh gr A k B j C c D d), .slice L l.length kl, .slice S set.length ks] w (.bool true) := by
  have ht := turn_of htab
  have HMq : Hid (∀ W, Grew w W → Calls Tryd.prog 4 #[.agg (qyC it sr wh gr A k B j C c D d)] W (MuchR W (goodQ ⟨it, sr, wh, gr⟩))) := Lib.hid fun W hW => muchq_any it sr wh gr A k B j C c D d W (rA.grew hW) (rB.grew hW) (rC.grew hW) (rD.grew hW)
  have HM2 : Hid (∀ W, Grew w W → Calls Tryd.prog 5 #[.slice L l.length kl] W (MuchR W (l.length ≤ 16 ∧ FewSd l))) := Lib.hid fun W hW => rmuch29s_any l hl L kl W (ra.grew hW)
  have hlit : FewSd l → LitSd l := fun h s hs => ⟨by have := (h s hs).1; omega, fun c hc => by have := (h s hs).2 c hc; omega⟩
  have HLv : Hid (∀ W, Grew w W → Gives Tryd.prog 6 #[] W (.bool true)) := Lib.hid fun W hW => live30_any W (ht.grew hW)
  have HAll : Hid (goodQ ⟨it, sr, wh, gr⟩ → l.length ≤ 16 ∧ FewSd l → FewX (normX sr wh) ∧ (∀ W, Grew w W → Calls Tryd.prog 7 #[.agg (qyC it sr wh gr A k B j C c D d)] W (NormF W (normX sr wh))) ∧
      (∀ (x : Nm), FewX x → ∀ X kx B j C c D d E e W, Grew w W → XllR (PRow W) X x.scan → EdsR (PRow W) B x.edges →
        KCost W (scanK (heldAll l) x.scan) (sizeK (heldAll l) x.scan x.edges) (.agg (nmC x X kx B j C c D d E e)) (.slice L l.length kl))) := Lib.hid fun hg hm =>
    ⟨fewX_of hg.src hg.on hg.wh, fun W hW => nrof_any it sr wh gr A k B j C c D d W (Nat.le_trans hg.src (by decide)) hg.on hg.wh (rB.grew hW) (rC.grew hW), fun x hx X kx B j C c D d E e W hW rX rE =>
      kcost_of l (by have := hm.1; omega) (hlit hm.2) x hx.scan (by have := hx.tabs; omega) hx.edges L kl X kx B j C c D d E e W (ra.grew hW) (ht.grew hW) rX rE⟩
  have HRw : Hid (∀ W, Grew w W → Row W S (iV set)) := Lib.hid fun W hW => rs.grew hW
  obtain ⟨W0, hW0⟩ : ∃ W0, W0 = w.alloc (.cells (qyC it sr wh gr A k B j C c D d) 29) := ⟨_, rfl⟩
  have HG0 : Hid (Grew w W0) := Lib.hid (by rw [hW0]; exact (Grew.refl w).alloc _)
  have HB0 : Hid (Blok W0 w.heap.size 29 (qyC it sr wh gr A k B j C c D d)) := Lib.hid (by rw [hW0]; exact Blok.new _ _ _ _ rfl)
  obtain ⟨xl, x0, x1, x2, x3, x4, x5, x6, x7, x8, x9, x10, x11⟩ := qy_in HB0.out
  clear rA rB rC rD ra rs ht htab hl hlit
  unfold qyC at HMq hW0 ⊢
  unfold Gives
  go_enter Tryd.func3, Tryd.ntmps3
  go_upto_region 1 with fail
  rw [← hW0]
  clear hW0
  go_wp2_with fail
  refine (HMq.out _ HG0.out).mono ?_
  rintro e w1 ⟨t1, rfl, hg1, hq1⟩
  have HG1 := Lib.hid (HG0.out.trans hg1)
  have HB1 := Lib.hid (HB0.out.grew hg1)
  clear hg1 HMq xl x0 x1 x2 x3 x4 x5 x6 x7 x8 x9 x10 x11
  cases t1
  rotate_left
  · go_wp2_with (go_at_call 6; (with_reducible refine (HLv.out _ HG1.out).grows.mono ?_); rintro e9 w9 ⟨rfl, hg9⟩; have HG9 := Lib.hid hg9; clear hg9)
    go_ret
    exact ⟨rfl, HG1.out.trans HG9.out⟩
  have hgq : goodQ ⟨it, sr, wh, gr⟩ := hq1 rfl
  clear hq1
  go_wp2_with fail
  refine (HM2.out _ HG1.out).mono ?_
  rintro e w2 ⟨t2, rfl, hg2, hm⟩
  have HG2 := Lib.hid (HG1.out.trans hg2)
  have HB2 := Lib.hid (HB1.out.grew hg2)
  clear hg2 HM2
  cases t2
  rotate_left
  · clear hm
    go_wp2_with (go_at_call 6; (with_reducible refine (HLv.out _ HG2.out).grows.mono ?_); rintro e9 w9 ⟨rfl, hg9⟩; have HG9 := Lib.hid hg9; clear hg9)
    go_ret
    exact ⟨rfl, HG2.out.trans HG9.out⟩
  have hm2 := hm rfl
  clear hm
  obtain ⟨hfx, hof, hkx⟩ := HAll.out hgq hm2
  have HOf := Lib.hid hof
  have HK := Lib.hid (hkx _ hfx)
  have HFx := Lib.hid hfx
  clear HAll hfx hof hkx hgq hm2
  generalize normX sr wh = x at *
  unfold qyC at HOf
  obtain ⟨xl, x0, x1, x2, x3, x4, x5, x6, x7, x8, x9, x10, x11⟩ := qy_in HB2.out
  go_upto_region 4 with (go_at_call 7; (with_reducible refine (HOf.out _ HG2.out).mono ?_); rintro e2 w3 ⟨A1, k1, B1, j1, C1, c1, D1, d1, E1, f1, rfl, hg3, hm3⟩; unfold nmC)
  obtain ⟨W4, hW4⟩ : ∃ W4, W4 = w3.alloc (.cells (nmC x A1 k1 B1 j1 C1 c1 D1 d1 E1 f1) 39) := ⟨_, rfl⟩
  have hg4 : Grew w3 W4 := by rw [hW4]; exact (Grew.refl _).alloc _
  have HX : Hid (Blok W4 w3.heap.size 39 (nmC x A1 k1 B1 j1 C1 c1 D1 d1 E1 f1)) := Lib.hid (by rw [hW4]; exact Blok.new _ _ _ _ rfl)
  have HG4 : Hid (Grew w W4) := Lib.hid (HG2.out.trans (hg3.trans hg4))
  have HKx : Hid (KCost W4 (scanK (heldAll l) x.scan) (sizeK (heldAll l) x.scan x.edges) (.agg (nmC x A1 k1 B1 j1 C1 c1 D1 d1 E1 f1)) (.slice L l.length kl)) := Lib.hid (HK.out A1 k1 B1 j1 C1 c1 D1 d1 E1 f1 W4 HG4.out (hm3.scan.grew hg4) (hm3.edges.grew hg4))
  unfold nmC at hW4
  rw [← hW4]
  clear hW4 hg3 hm3 hg4 HG2 HB2 HOf HK xl x0 x1 x2 x3 x4 x5 x6 x7 x8 x9 x10 x11
  generalize hgx : w3.heap.size = gx at *
  clear hgx
  have HZ : Hid (∀ l1 l2 : List Int, (∀ y, y ∈ l1 ↔ y ∈ l2) → sizeK (heldAll l) x.scan x.edges l1 = sizeK (heldAll l) x.scan x.edges l2) := Lib.hid fun _ _ h => sizeK_congr _ _ _ h
  have htabs := HFx.out.tabs
  generalize scanK (heldAll l) x.scan = sc at *
  generalize sizeK (heldAll l) x.scan x.edges = sz at *
  have HRt : Hid (∀ m S' ks' W, Grew W4 W → Row W S' (iV m) → m.length ≤ 1000000000000000 → Gives Tryd.prog 8 #[.agg (nmC x A1 k1 B1 j1 C1 c1 D1 d1 E1 f1), .slice S' m.length ks'] W (.bool (decide (rightP x.scan.length m)))) := Lib.hid fun m S' ks' W hW hr hm => rright_big x (by omega) m hm S' ks' A1 k1 B1 j1 C1 c1 D1 d1 E1 f1 W hr
  obtain ⟨x0, m0, m1, m2, m3, m4, m5⟩ := nm6 HX.out
  by_cases h6 : 6 < x.scan.length
  · have h6' : decide ((6 : Int) < (x.scan.length : Int)) = true := decide_eq_true (by omega)
    go_wp2_with (go_at_call 6; (with_reducible refine (HLv.out _ HG4.out).grows.mono ?_); rintro e9 w9 ⟨rfl, hg9⟩; have HG9 := Lib.hid hg9; clear hg9)
    go_ret
    exact ⟨rfl, HG4.out.trans HG9.out⟩
  have h6' : decide ((6 : Int) < (x.scan.length : Int)) = false := decide_eq_false (by omega)
  by_cases hrt : rightP x.scan.length set
  rotate_left
  · have HR1 : Hid (∀ W, Grew W4 W → Gives Tryd.prog 8 #[.agg (nmC x A1 k1 B1 j1 C1 c1 D1 d1 E1 f1), .slice S set.length ks] W (.bool false)) := Lib.hid fun W hW => by have h := HRt.out set S ks W hW (HRw.out _ (HG4.out.trans hW)) hsl; rwa [decide_eq_false hrt] at h
    clear hrt
    unfold nmC at HR1
    go_wp2_with (first | (go_at_call 8; (with_reducible refine (HR1.out _ (Grew.refl _)).grows.mono ?_); rintro e8 w8 ⟨rfl, hg8⟩; have HG8 := Lib.hid (HG4.out.trans hg8); clear hg8) | (go_at_call 6; (with_reducible refine (HLv.out _ HG8.out).grows.mono ?_); rintro e9 w9 ⟨rfl, hg9⟩; have HG9 := Lib.hid hg9; clear hg9))
    go_ret
    exact ⟨rfl, HG8.out.trans HG9.out⟩
  have hsn : set.length = x.scan.length := hrt.2
  have HR1 : Hid (∀ W, Grew W4 W → Gives Tryd.prog 8 #[.agg (nmC x A1 k1 B1 j1 C1 c1 D1 d1 E1 f1), .slice S set.length ks] W (.bool true)) := Lib.hid fun W hW => by have h := HRt.out set S ks W hW (HRw.out _ (HG4.out.trans hW)) hsl; rwa [decide_eq_true hrt] at h
  have HBr : Hid (rightP x.scan.length (bestP sc sz x.scan.length)) := Lib.hid (bestP_right sc sz _)
  have hbl : (bestP sc sz x.scan.length).length = x.scan.length := HBr.out.2
  have hle : costS sc sz (bestP sc sz x.scan.length) ≤ costS sc sz set := bestP_least sc sz HZ.out hrt
  have HR2 : Hid (∀ S' ks' W, Grew W4 W → Row W S' (iV (bestP sc sz x.scan.length)) → Gives Tryd.prog 8 #[.agg (nmC x A1 k1 B1 j1 C1 c1 D1 d1 E1 f1), .slice S' (bestP sc sz x.scan.length).length ks'] W (.bool true)) := Lib.hid fun S' ks' W hW hr => by have h := HRt.out _ S' ks' W hW hr (by omega); rwa [decide_eq_true HBr.out] at h
  have HBe : Hid (∀ W, Grew W4 W → Calls Tryd.prog 9 #[.agg (nmC x A1 k1 B1 j1 C1 c1 D1 d1 E1 f1), .slice L l.length kl] W (OwnI W (bestP sc sz x.scan.length))) := Lib.hid fun W hW => best_any sc sz _ x (by omega) A1 k1 B1 j1 C1 c1 D1 d1 E1 f1 W (HKx.out.grew hW)
  have HC1 : Hid (∀ S' ks' W, Grew W4 W → Row W S' (iV (bestP sc sz x.scan.length)) → (bestP sc sz x.scan.length).length ≤ ks' → Gives Tryd.prog 10 #[.agg (nmC x A1 k1 B1 j1 C1 c1 D1 d1 E1 f1), .slice L l.length kl, .slice S' (bestP sc sz x.scan.length).length ks'] W (.int .i64 (costS sc sz (bestP sc sz x.scan.length)))) := Lib.hid fun S' ks' W hW hr hk => ordCost_any _ (by omega) S' ks' hk sc sz _ x A1 k1 B1 j1 C1 c1 D1 d1 E1 f1 W hr (HKx.out.grew hW)
  have HC2 : Hid (∀ W, Grew W4 W → Gives Tryd.prog 10 #[.agg (nmC x A1 k1 B1 j1 C1 c1 D1 d1 E1 f1), .slice L l.length kl, .slice S set.length ks] W (.int .i64 (costS sc sz set))) := Lib.hid fun W hW => ordCost_any set (by omega) S ks hks sc sz _ x A1 k1 B1 j1 C1 c1 D1 d1 E1 f1 W (HRw.out _ (HG4.out.trans hW)) (HKx.out.grew hW)
  clear HKx HRt HZ HFx hrt HBr HRw hsn hbl
  generalize costS sc sz (bestP sc sz x.scan.length) = cb at *
  generalize costS sc sz set = cs at *
  generalize bestP sc sz x.scan.length = bp at *
  have hle' : decide (cb ≤ cs) = true := decide_eq_true hle
  have HX' := HX
  unfold nmC at HR1 HR2 HBe HC1 HC2
  go_upto_region 6 with (go_at_call 8; (with_reducible refine (HR1.out _ (Grew.refl _)).grows.mono ?_); rintro e8 w8 ⟨rfl, hg8⟩; have HG8 := Lib.hid hg8; clear hg8)
  clear x0 m0 m1 m2 m3 m4 m5
  obtain ⟨x0, m0, m1, m2, m3, m4, m5⟩ := nm6 (HX.out.grew HG8.out)
  go_upto_region 7 with (go_at_call 9; (with_reducible refine (HBe.out _ HG8.out).mono ?_); rintro e9 w9 ⟨Ab, kb, rfl, hg9, ho9⟩; have HG9 := Lib.hid (HG8.out.trans hg9); have HRb := Lib.hid (own_rowI ho9); have hkb : bp.length ≤ kb := own_cap' ho9; clear hg9 ho9)
  clear x0 m0 m1 m2 m3 m4 m5
  obtain ⟨W1, hW1⟩ : ∃ W1, W1 = w9.drew := ⟨_, rfl⟩
  have hS0 : Grew W4 W1 := by rw [hW1]; exact HG9.out.drew
  have hR0 : Grew w9 W1 := by rw [hW1]; exact (Grew.refl w9).drew
  refine wp_region_S (fun W => Grew W4 W) (by kernel_rfl) ?_
  rw [← hW1]
  clear hW1
  refine held_take 0 (v := ?_) rfl (by kernel_rfl) (by kernel_rfl) (by kernel_rfl) (fun _ _ _ h => h) (by rfl) ?_ hS0 ?_
  rotate_left
  · (intro W hW; obtain ⟨x0, m0, m1, m2, m3, m4, m5⟩ := nm6 (HX.out.grew hW); go_simp; with_reducible rfl)
  refine held_take 1 (v := ?_) rfl (by kernel_rfl) (by kernel_rfl) (by kernel_rfl) (fun _ _ _ h => h) (by rfl) ?_ hS0 ?_
  rotate_left
  · (intro W hW; obtain ⟨x0, m0, m1, m2, m3, m4, m5⟩ := nm6 (HX.out.grew hW); go_simp; with_reducible rfl)
  refine held_norm (a' := ?_) ?_ ?_
  rotate_left
  · (go_simp; with_reducible rfl)
  refine held_call 2 (by kernel_rfl) rfl (by rfl) (fun K hK => ?_)
  go_simp
  go_wp2_with ((go_at_call 8; (with_reducible refine (HR2.out _ _ _ hS0 (HRb.out.grew hR0)).grows.mono ?_); rintro en v1 ⟨rfl, hgn⟩; have hS1 := hS0.trans hgn; have hR1 := hR0.trans hgn))
  refine hK.out _ _ hS1 ?_
  clear hK K
  refine held_take 3 (v := ?_) rfl (by kernel_rfl) (by kernel_rfl) (by kernel_rfl) (fun _ _ _ h => h) (by rfl) ?_ hS1 ?_
  rotate_left
  · (intro W hW; go_simp; with_reducible rfl)
  refine held_norm (a' := ?_) ?_ ?_
  rotate_left
  · (go_simp; with_reducible rfl)
  refine held_take 4 (v := ?_) rfl (by kernel_rfl) (by kernel_rfl) (by kernel_rfl) (fun _ _ _ h => h) (by rfl) ?_ hS1 ?_
  rotate_left
  · (intro W hW; obtain ⟨x0, m0, m1, m2, m3, m4, m5⟩ := nm6 (HX.out.grew hW); go_simp; with_reducible rfl)
  refine held_take 5 (v := ?_) rfl (by kernel_rfl) (by kernel_rfl) (by kernel_rfl) (fun _ _ _ h => h) (by rfl) ?_ hS1 ?_
  rotate_left
  · (intro W hW; obtain ⟨x0, m0, m1, m2, m3, m4, m5⟩ := nm6 (HX.out.grew hW); go_simp; with_reducible rfl)
  refine held_take 6 (v := ?_) rfl (by kernel_rfl) (by kernel_rfl) (by kernel_rfl) (fun _ _ _ h => h) (by rfl) ?_ hS1 ?_
  rotate_left
  · (intro W hW; obtain ⟨x0, m0, m1, m2, m3, m4, m5⟩ := nm6 (HX.out.grew hW); go_simp; with_reducible rfl)
  refine held_norm (a' := ?_) ?_ ?_
  rotate_left
  · (go_simp; with_reducible rfl)
  refine held_take 8 (v := ?_) rfl (by kernel_rfl) (by kernel_rfl) (by kernel_rfl) (fun _ _ _ h => h) (by rfl) ?_ hS1 ?_
  rotate_left
  · (intro W hW; obtain ⟨x0, m0, m1, m2, m3, m4, m5⟩ := nm6 (HX.out.grew hW); go_simp; with_reducible rfl)
  refine held_take 9 (v := ?_) rfl (by kernel_rfl) (by kernel_rfl) (by kernel_rfl) (fun _ _ _ h => h) (by rfl) ?_ hS1 ?_
  rotate_left
  · (intro W hW; obtain ⟨x0, m0, m1, m2, m3, m4, m5⟩ := nm6 (HX.out.grew hW); go_simp; with_reducible rfl)
  refine held_take 10 (v := ?_) rfl (by kernel_rfl) (by kernel_rfl) (by kernel_rfl) (fun _ _ _ h => h) (by rfl) ?_ hS1 ?_
  rotate_left
  · (intro W hW; obtain ⟨x0, m0, m1, m2, m3, m4, m5⟩ := nm6 (HX.out.grew hW); go_simp; with_reducible rfl)
  refine held_norm (a' := ?_) ?_ ?_
  rotate_left
  · (go_simp; with_reducible rfl)
  refine held_call 7 (by kernel_rfl) rfl (by rfl) (fun K hK => ?_)
  go_simp
  go_wp2_with ((go_at_call 10; (with_reducible refine (HC1.out _ _ _ hS1 (HRb.out.grew hR1) hkb).grows.mono ?_); rintro en v3 ⟨rfl, hgn3⟩; have hS3 := hS1.trans hgn3))
  refine hK.out _ _ hS3 ?_
  clear hK K
  refine held_call 11 (by kernel_rfl) rfl (by rfl) (fun K hK => ?_)
  go_simp
  go_wp2_with ((go_at_call 10; (with_reducible refine (HC2.out _ hS3).grows.mono ?_); rintro en v4 ⟨rfl, hgn4⟩; have hS4 := hS3.trans hgn4))
  refine hK.out _ _ hS4 ?_
  clear hK K
  refine held_take 12 (v := ?_) rfl (by kernel_rfl) (by kernel_rfl) (by kernel_rfl) (fun _ _ _ h => h) (by rfl) ?_ hS4 ?_
  rotate_left
  · (intro W hW; go_simp; with_reducible rfl)
  refine held_take 13 (v := ?_) rfl (by kernel_rfl) (by kernel_rfl) (by kernel_rfl) (fun _ _ _ h => h) (by rfl) ?_ hS4 ?_
  rotate_left
  · (intro W hW; go_simp; with_reducible rfl)
  refine held_take 14 (v := ?_) rfl (by kernel_rfl) (by kernel_rfl) (by kernel_rfl) (fun _ _ _ h => h) (by rfl) ?_ hS4 ?_
  rotate_left
  · (intro W hW; go_simp; with_reducible rfl)
  refine held_norm (a' := ?_) ?_ ?_
  rotate_left
  · (go_simp; with_reducible rfl)
  refine held_call 15 (by kernel_rfl) rfl (by rfl) (fun K hK => ?_)
  go_simp
  go_wp2_with ((go_at_call 6; (with_reducible refine (HLv.out _ (HG4.out.trans hS4)).grows.mono ?_); rintro en v7 ⟨rfl, hgn7⟩; have hS7 := hS4.trans hgn7))
  refine hK.out _ _ hS7 ?_
  clear hK K
  refine held_take 16 (v := ?_) rfl (by kernel_rfl) (by kernel_rfl) (by kernel_rfl) (fun _ _ _ h => h) (by rfl) ?_ hS7 ?_
  rotate_left
  · (intro W hW; go_simp; with_reducible rfl)
  refine held_take 17 (v := ?_) rfl (by kernel_rfl) (by kernel_rfl) (by kernel_rfl) (fun _ _ _ h => h) (by rfl) ?_ hS7 ?_
  rotate_left
  · (intro W hW; go_simp; with_reducible rfl)
  refine held_norm (a' := ?_) ?_ ?_
  rotate_left
  · (go_simp; with_reducible rfl)
  refine held_done (by kernel_rfl) ?_
  have HGf := Lib.hid (HG4.out.trans hS7)
  clear hS7 hS4 hS3 hS1 hS0 hR0 hR1 hgn hgn3 hgn4 hgn7
  go_wp2
  go_ret
  exact ⟨rfl, HGf.out⟩
end Go.Proofs.YtbglmcebkpkccaaDoor

namespace Go.Proofs.YtbglmcebkpkccaaDoor.orderLeast
open Go.RowKit Go.ChangeShapes Go.WideShapes Go.ChangeAt Go.Joins

theorem reads : ∀ t ∈ Tryd.f3.params.toList, Tryd.prog.readableRec t = true ∧ t < Tryd.prog.types.size := by
  rw [Tryd.params3]
  intro t ht
  simp only [List.mem_cons, List.not_mem_nil, or_false] at ht
  rcases ht with rfl | rfl | rfl
  all_goals exact ⟨by kernel_rfl, of_decide_eq_true (by kernel_rfl)⟩

/-- The door's own heap meets the condition. -/
theorem door_met (os : Os) (args : Array Value) : laidMetH Tryd.prog Rows.orderLeastRow.laid ((World.doorLaid Tryd.prog 600 os).forCall (fun _ _ => 0) ⟨#[], args, []⟩).memory :=
  laidMetH_of_parts3 (fuel := 8) (laidMet_of_run' 8 (by kernel_rfl) (by kernel_rfl)) (by kernel_rfl) (by kernel_rfl)
/-- What the condition gives a walk: the table. -/
theorem of_laid {W : World} (h : laidMetH Tryd.prog Rows.orderLeastRow.laid W) : Lib.TabIs Tryd.prog W "trommel/cost.turned" .i64 [0, 1, 2, 5, 6, 3, 4] := by
  rw [MakeChecks.laidMetH_plain _ _ _ (by kernel_rfl)] at h
  have h2 : laidMet Tryd.prog (("trommel/cost.turned", Lib.tabData .i64 [0, 1, 2, 5, 6, 3, 4]) :: []) W := h
  exact Lib.tabIs_of_head (g := 1) (t := 128) (e := 3) (n := 7) (by kernel_rfl) (by kernel_rfl) (by kernel_rfl) (by kernel_rfl) (by kernel_rfl) (by kernel_rfl) h2
set_option maxRecDepth 100000 in
theorem lifted (os : Os) (started : os.Started) (H : Type) (enc : TypeId × Value → H) :
    ReturnsInHanded {} Tryd.checked os 3 .any (fun w args => (Rows.orderLeastSpec.pre enc Tryd.prog Tryd.f3 [] false w args ∧ laidMetH Tryd.prog Rows.orderLeastRow.laid w) ∧ sizedMet enc Tryd.prog Tryd.f3 (OpenSpec.ofChange Rows.orderLeastSpec) false w args)
      (Rows.orderLeastSpec.post enc Tryd.prog Tryd.f3 false true false false) := by
  refine returnsInHanded_of_change_and (C := Tryd.checked) (X := fun w _ => laidMetH Tryd.prog Rows.orderLeastRow.laid w) (fun _ _ _ hh h => h.of_heap hh) own started (by kernel_rfl) Tryd.func3
    (ChangeSpec.witness_shaped (enc := enc) (C := Tryd.checked) (os := os) (X := fun w _ => laidMetH Tryd.prog Rows.orderLeastRow.laid w) false (World.doorLaid Tryd.prog 600 os) #[.agg #[.slice none 0 0, .slice none 0 0, .int .i64 0, .string ByteArray.empty, .string ByteArray.empty, .int .i64 0, .int .i64 0, .int .i64 0, .int .i64 0, .string ByteArray.empty, .slice none 0 0, .slice none 0 0], .slice none 0 0, .slice none 0 0] 8 rfl (World.shaped_of_RefB (by kernel_rfl) (by kernel_rfl)) (by kernel_rfl) (by kernel_rfl) (by kernel_rfl) (door_met os _)) ?_
  intro W base args ds gs before hval0 hW hcnd hsz0 hL _
  have hval : ∀ (j : Nat) t v, Tryd.f3.params[j]? = some t → args[j]? = some v → Value.okWide Tryd.prog W .any base t v := hval0
  have hW' := hW
  obtain ⟨p, q, hA0, hV, hpq, hfz, hnd⟩ := hW
  have hA : DataW.TrodAll enc Tryd.prog W 0 (fun _ => true) true Tryd.f3.params.toList args.toList ds p := hA0
  rw [Tryd.params3] at hA hval
  obtain ⟨v0, vs0, d0, ds0, p0, q0, hargs, rfl, rfl, h0, r0⟩ := trodAll_cons hA
  obtain ⟨v1, vs1, d1, ds1, p1, q1, rfl, rfl, rfl, h1, r1⟩ := trodAll_cons r0
  obtain ⟨v2, vs2, d2, ds2, p2, q2, rfl, rfl, rfl, h2, r2⟩ := trodAll_cons r1
  obtain ⟨rfl, rfl, rfl⟩ := trodAll_nil r2
  obtain rfl : args = #[v0, v1, v2] := by cases args; simp_all
  obtain ⟨rfl, rfl⟩ := trodVars_none hV
  have hz : (DataW.weightsEach Tryd.prog [29, 30, 31] [d0, d1, d2]).all (· ≤ reachBytes) = true := hsz0
  simp only [DataW.weightsEach, List.all_append, List.append_nil, Bool.and_eq_true] at hz
  obtain ⟨zz0, zz1, zz2⟩ := hz
  obtain ⟨qcs, q, rfl, zq, qA, qk, qB, qj, qC, qc, qD, qd, eq, rq1, rq2, rq3, rq4⟩ := rd_arg Tryd.underlying29 rd_query (hval 0 29 v0 rfl rfl) h0
  obtain rfl : qcs = qyC q.items q.src q.wh q.group qA qk qB qj qC qc qD qd := Array.ext' (by rw [eq]; rfl)
  have o1 := rdw_arg_slice Tryd.underlying30 rdw_ssts (hval 1 30 v1 rfl rfl) h1 zz1
  obtain ⟨s, ⟨sA, sc, es, cs, rs⟩, ks⟩ := o1
  obtain rfl := List.cons.inj es |>.1
  have o2 := open_islice Tryd.underlying31 Tryd.underlying3 (by kernel_rfl) (hval 2 31 v2 rfl rfl) h2
  obtain ⟨tA, tc, tl, rfl, zt, rt, wt, st⟩ := o2
  have hks := open_islice_capO Tryd.underlying31 Tryd.underlying3 (by kernel_rfl) h2
  have hlt := len_ofO (st zz2) bytesIO
  have htab := of_laid hL
  refine (orderLeast_walk q.items q.src q.wh q.group qA qk qB qj qC qc qD qd s sA sc tl tA tc W hks hlt ks rq1 rq2 rq3 rq4 rs rt htab).mono fun e W' ⟨he, hg⟩ => ?_
  subst he
  exact ⟨_, rfl, law_post hW' rfl rfl Tryd.underlying4 rfl rfl rfl laid_out reads (Grew.below hg)⟩

theorem over : Rows.orderLeastRow.holds Tryd.pinned (OpenSpec.ofChange Rows.orderLeastSpec) :=
  OpenClaim.holds_of_wide 3 Tryd.f3 rfl rfl rfl rfl rfl rfl rfl ⟨rfl, rfl, rfl, rfl, rfl⟩ rfl rfl rfl rfl rfl (by kernel_rfl) Tryd.func3 (by kernel_rfl)
    (of_decide_eq_true (by kernel_rfl)) (by unfold Func.isWrapper; first | (rw [if_pos (by decide +kernel)]; kernel_rfl) | (rw [if_neg (by decide +kernel)]; exact ⟨rfl, rfl⟩))
    (fun os started H enc _ => lifted os started H enc)

theorem proved : Rows.OrderLeastCardSaid :=
  Claim7.holds_tied_plain_at .later [] [.data] true (true, "c2e8a5b88a5b3fd659f07d75c81030b9b1f766f91fdbb7631e35c2ece3ac311c") false
    over (fun _ h => by cases h) (by kernel_rfl) (fun _ h => by cases h) orderLeast_row_tie rfl ⟨rfl, rfl⟩ (by kernel_rfl) rfl
    (fun f fn hf hfn => by
      obtain rfl : f = 3 := Option.some.inj ((show Tryd.prog.funcNamed "trommel/trommellaw30.OrderLeast" = some 3 by kernel_rfl).symm.trans hf) |>.symm
      obtain rfl : fn = Tryd.f3 := (Option.some.inj (Tryd.func3.symm.trans hfn)).symm
      exact ⟨by kernel_rfl, fun j t ht => by
        rw [Tryd.params3] at ht
        have hm : t ∈ [29, 30, 31] := by simpa using Array.mem_of_getElem? ht
        have hall : ([29, 30, 31].all fun u => !Tryd.prog.wantsStandIn u) = true := by kernel_rfl
        exact (show Tryd.prog.wantsStandIn t = false by simpa using List.all_eq_true.1 hall t hm)⟩)
    (by kernel_rfl)

end Go.Proofs.YtbglmcebkpkccaaDoor.orderLeast
