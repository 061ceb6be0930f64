/- The statement OrderBestsSaid: for every input the law returns true, and each argument reads as it did. No condition beyond the row's own. -/
import Derived.Test.YtbglmcebkpkccaaGreatDoorQOa
import Derived.Deep.DeepCutAuto
import Derived.Test.YtbglmcebkpkccaaGreatDoorQKE
import Derived.Test.YtbglmcebkpkccaaGreatDoorQNc
import Derived.Test.YtbglmcebkpkccaaGreatDoorSame
import Derived.Test.YtbglmcebkpkccaaGreatDoorTab
import Derived.Test.YtbglmcebkpkccaaGreatDoorFrame2
import Derived.Test.YtbglmcebkpkccaaGreatDoorTie
import Derived.Test.YtbglmcebkpkccaaGreatDoorCards
import Derived.ProofKit
import Derived.LaidMore
import Derived.Lib.LaidTab
import Derived.Stop.LaidErr
import Derived.Stop.Joined
import Derived.SevenTiedAt

/- Layer 30: the best order of some tables, by the document. Condition: no more than a hundred tables. -/
namespace Go.Proofs.YtbglmcebkpkccaaGreatDoor
open Go.RowKit
attribute [local go_sem] more_cell more_frozen more_more more_setCell more_of_drew more_of_drewN lt_more le_more past_cell past_cell2 past_frozen past_frozen2 past_setCell past_setCell2 mid_cell mid_frozen mid_setCell
attribute [local go_sem] fldC0 fldC1 fldS0
attribute [local go_sem ↓] Go.wp_at_zero Go.wp_at_succ

theorem held_pairO {P : Program} {ops : Array Oper} {Q : Exit → Act → World → Prop} {wc : World} {S : World → Prop} (i j : Nat) {o o' : Oper} {fuel : Nat} {listed : Array Bool} {a : Act} (hr : Region.ready .any ops listed = [i, j]) (ho : ops[i]? = some o) (ho' : ops[j]? = some o') (hw : Region.wanted o (yielded ops a.tmps) = true) (hw' : Region.wanted o' (yielded ops a.tmps) = true)
    (h : ∀ K' : Act → World → Prop, Hid (∀ a W, S W → wpAnyH P .any ops Q S fuel (listed.setIfInBounds i true) a W → K' a W) → Oper.wp P o a wc K' Q)
    (h' : ∀ K' : Act → World → Prop, Hid (∀ a W, S W → wpAnyH P .any ops Q S fuel (listed.setIfInBounds j true) a W → K' a W) → Oper.wp P o' a wc K' Q) : wpAnyH P .any ops Q S (fuel + 1) listed a wc := by
  refine wpAnyH_ready hr (by simp) (AllReadyH.cons ho (fun K' hK => ?_) (AllReadyH.cons ho' (fun K' hK => ?_) AllReadyH.nil))
  · rw [if_pos hw]
    exact h K' (Lib.hid fun a W hG hW => hK.out a W hG (fun _ => hW))
  · rw [if_pos hw']
    exact h' K' (Lib.hid fun a W hG hW => hK.out a W hG (fun _ => hW))
/-- The best order of a set, and its cost, handed back. -/
def Of30F (w : World) (r : List Int × Int) (e : Ending) (w' : World) : Prop := ∃ A k, e = .returned (.tuple #[.slice A r.1.length k, .int .i64 r.2]) ∧ Grew w w' ∧ Row w' A (iV r.1)
def Of30At (w : World) (sc : Int → Int) (sz : List Int → Int) (l : List Int) (v c i : Value) (wr : World) : Prop := ∃ (q : Nat) (r : List Int × Int) (A : Option Addr) (k : Nat), q ≤ l.length ∧ pickTo (candB sc sz l) l q = r ∧ i = .int .i64 q ∧ v = .slice A r.1.length k ∧ c = .int .i64 r.2 ∧ Grew w wr ∧ Row wr A (iV r.1)
set_option maxHeartbeats 16000000 in
set_option maxRecDepth 100000 in
theorem rof30_any (sc : Int → Int) (sz : List Int → Int) (sts : Value) (x : Nm) (X : Option Addr) (kx : Nat) (B : Option Addr) (j : Nat) (C : Option Addr) (c0 : Nat) (D : Option Addr) (d : Nat) (E : Option Addr) (e : Nat) (u : World)
    (hK0 : RCost u sc sz (.agg (nmC x X kx B j C c0 D d E e)) sts) : ∀ (n : Nat) (l : List Int), l.length = n → l.length ≤ 100 → l.Nodup → ∀ (S : Option Addr) (ks : Nat) (w : World), Grew u w → Row w S (iV l) →
    Calls Tryz.prog 66 #[.agg (nmC x X kx B j C c0 D d E e), sts, .slice S l.length ks] w (Of30F w (bstB sc sz l)) := by
  intro n
  induction n using Nat.strongRecOn with
  | _ n ih =>
  intro l hln hl hnd S ks w hu rs
  obtain ⟨W0, hW0⟩ : ∃ W0, W0 = w.alloc (.cells (nmC x X kx B j C c0 D d E e) 39) := ⟨_, rfl⟩
  have HG0 : Hid (Grew w W0) := Lib.hid (by rw [hW0]; exact (Grew.refl w).alloc _)
  have HX0 : Hid (Blok W0 w.heap.size 39 (nmC x X kx B j C c0 D d E e)) := Lib.hid (by rw [hW0]; exact Blok.new _ _ _ _ rfl)
  have HK := Lib.hid (hK0.grew (hu.trans HG0.out))
  have HRs := Lib.hid (rs.grew HG0.out)
  have HIH : Hid (∀ (m : List Int), m.length < l.length → m.Nodup → ∀ S ks W, Grew W0 W → Row W S (iV m) → Calls Tryz.prog 66 #[.agg (nmC x X kx B j C c0 D d E e), sts, .slice S m.length ks] W (Of30F W (bstB sc sz m))) := Lib.hid fun m hm hmn S ks W hW hr => ih m.length (by omega) m rfl (by omega) hmn S ks W ((hu.trans HG0.out).trans hW) hr
  have HWo : Hid (∀ t W, Grew W0 W → Calls Tryz.prog 70 #[.slice S l.length ks, .int .i64 t] W (OwnI W (wout l t))) := Lib.hid fun t W hW => rwithout_any l t (by omega) S ks W (HRs.out.grew hW)
  have HSl : Hid (∀ W, Grew W0 W → Gives Tryz.prog 17 #[.agg (nmC x X kx B j C c0 D d E e), sts, .slice S l.length ks] W (.int .i64 (sz l))) := Lib.hid fun W hW => HK.out.size l S ks W (by omega) hW (HRs.out.grew hW)
  have HND := Lib.hid hnd
  clear hK0 rs ih hu hln n hnd
  obtain ⟨x0, m0, m1, m2, m3, m4, m5⟩ := nm6 HX0.out
  unfold nmC at HIH HSl hW0 HK ⊢
  by_cases h2 : l.length < 2
  · have HFin : Hid (∀ W, Grew W0 W → Of30F w (bstB sc sz l) (.returned (.tuple #[.slice S l.length ks, .int .i64 0])) W) := Lib.hid fun W hW => by
      rw [bstB_few sc sz h2]
      exact ⟨S, ks, rfl, HG0.out.trans hW, HRs.out.grew hW⟩
    have h2' : (l.length : Int) < 2 := by omega
    clear HIH HWo HSl HND HK
    generalize Of30F w (bstB sc sz l) = F at *
    go_enter Tryz.func66, Tryz.ntmps66
    go_upto_region 1 with fail
    rw [← hW0]
    clear hW0
    go_wp2
    first | exact HFin.out _ (Grew.refl _) | (go_ret2; exact HFin.out _ (Grew.refl _))
  · have HFin : Hid (∀ r A k W, pickTo (candB sc sz l) l l.length = r → Grew W0 W → Row W A (iV r.1) → Of30F w (bstB sc sz l) (.returned (.tuple #[.slice A r.1.length k, .int .i64 r.2])) W) := Lib.hid fun r A k W hr hW hrow => by
      rw [bstB_more sc sz (by omega), hr]
      exact ⟨A, k, rfl, HG0.out.trans hW, hrow⟩
    have h2' : decide ((l.length : Int) < 2) = false := decide_eq_false (by omega)
    generalize Of30F w (bstB sc sz l) = F at *
    obtain ⟨zl, hzl⟩ : ∃ zl, sz l = zl := ⟨_, rfl⟩
    rw [hzl] at HSl
    have HZl := Lib.hid hzl
    clear hzl
    go_enter Tryz.func66, Tryz.ntmps66
    go_upto_region 1 with fail
    rw [← hW0]
    clear hW0
    go_upto_region 4 with (go_at_call 17; (with_reducible refine (HSl.out _ (Grew.refl _)).grows.mono ?_); rintro en w5 ⟨rfl, hg5⟩; have HG5 := Lib.hid hg5; clear hg5)
    clear x0 m0 m1 m2 m3 m4 m5
    go_wp2
    go_loopw [9, 10, 11] (fun v c i wr => Of30At W0 sc sz l v c i wr) (fun _ _ i _ => l.length - (intOf i).toNat)
    case atStart => exact ⟨0, ([], 0), none, 0, Nat.zero_le _, rfl, rfl, rfl, rfl, HG5.out, Or.inl rfl⟩
    case round =>
      obtain ⟨q, ⟨rl, rc⟩, A1, k1, hq, hp, rfl, rfl, rfl, hg, hr⟩ := hrel
      have HG := Lib.hid hg
      have HR := Lib.hid hr
      have HP := Lib.hid hp
      clear hg hr hp
      by_cases h : q < l.length
      · obtain ⟨b, o, rfl, hb, hc⟩ := rowI_at HRs.out h
        have hm : l[q] ∈ l := List.getElem_mem h
        have HPs : Hid (pickTo (candB sc sz l) l (q + 1) = if q = 0 ∨ (candB sc sz l l[q]).2 < rc then candB sc sz l l[q] else (rl, rc)) := Lib.hid (by
          rw [pickTo, HP.out, List.getD_eq_getElem?_getD, List.getElem?_eq_getElem h]
          rfl)
        have HW1 : Hid (∀ W, Grew W0 W → Calls Tryz.prog 70 #[.slice (some ⟨b, o, none⟩) l.length ks, .int .i64 l[q]] W (OwnI W (wout l l[q]))) := Lib.hid fun W hW => HWo.out l[q] W hW
        have HOf : Hid (∀ S ks W, Grew W0 W → Row W S (iV (wout l l[q])) → Calls Tryz.prog 66 #[.agg #[.int .i64 x.core, .slice X x.scan.length kx, .slice B x.edges.length j, .slice C x.rest.length c0, .slice D x.late.length d, .slice E x.wh.length e], sts, .slice S (wout l l[q]).length ks] W (Of30F W (bstB sc sz (wout l l[q])))) := Lib.hid fun S ks W hW hr => HIH.out _ (wout_lt hm) (wout_nodup HND.out _) S ks W hW hr
        have HSc : Hid (∀ W, Grew W0 W → Gives Tryz.prog 12 #[.agg #[.int .i64 x.core, .slice X x.scan.length kx, .slice B x.edges.length j, .slice C x.rest.length c0, .slice D x.late.length d, .slice E x.wh.length e], sts, .int .i64 l[q]] W (.int .i64 (sc l[q]))) := Lib.hid fun W hW => HK.out.scan l[q] W hW
        have hcd : candB sc sz l l[q] = ((bstB sc sz (wout l l[q])).1 ++ [l[q]], stepA (bstB sc sz (wout l l[q])).2 (sc l[q]) zl) := by unfold candB; rw [HZl.out]
        have hlen : (bstB sc sz (wout l l[q])).1.length ≤ 100 := by
          have h1 := (bstB_perm sc sz _ (wout l l[q]) rfl (wout_nodup HND.out _)).2.1
          have h2 := wout_lt hm
          omega
        rw [hcd] at HPs
        have HCell : Hid (∀ W, Grew W0 W → b < W.heap.size ∧ W.cell? ⟨b, o + q, none⟩ = some (.int .i64 l[q])) := Lib.hid fun W hW => cell_grewK hW hb hc
        clear hcd hb hc hm
        generalize bstB sc sz (wout l l[q]) = bb at *
        obtain ⟨r1, r2⟩ := bb
        simp only at HPs hlen
        generalize wout l l[q] = wl at *
        generalize sc l[q] = st at *
        generalize l[q] = t at *
        unfold Of30F at HOf
        go_upto_region 9 with fail
        obtain ⟨W1, hW1⟩ : ∃ W1, W1 = wr.drew := ⟨_, rfl⟩
        have hS0 : Grew W0 W1 := by rw [hW1]; exact HG.out.drew
        have hR0 : Grew wr W1 := by rw [hW1]; exact (Grew.refl wr).drew
        refine wp_region_S (fun W => Grew W0 W) (by kernel_rfl) ?_
        rw [← hW1]
        clear hW1
        refine held_take 0 (v := ?_) rfl (by kernel_rfl) (by kernel_rfl) (by kernel_rfl) (fun _ _ _ h => h) (by rfl) ?_ hS0 ?_
        rotate_left
        · (intro W hW; obtain ⟨x0, m0, m1, m2, m3, m4, m5⟩ := nm6 (HX0.out.grew hW); obtain ⟨hb, hc⟩ := HCell.out W hW; go_simp; with_reducible rfl)
        refine held_take 1 (v := ?_) rfl (by kernel_rfl) (by kernel_rfl) (by kernel_rfl) (fun _ _ _ h => h) (by rfl) ?_ hS0 ?_
        rotate_left
        · (intro W hW; obtain ⟨x0, m0, m1, m2, m3, m4, m5⟩ := nm6 (HX0.out.grew hW); obtain ⟨hb, hc⟩ := HCell.out W hW; go_simp; with_reducible rfl)
        refine held_take 2 (v := ?_) rfl (by kernel_rfl) (by kernel_rfl) (by kernel_rfl) (fun _ _ _ h => h) (by rfl) ?_ hS0 ?_
        rotate_left
        · (intro W hW; obtain ⟨x0, m0, m1, m2, m3, m4, m5⟩ := nm6 (HX0.out.grew hW); obtain ⟨hb, hc⟩ := HCell.out W hW; go_simp; with_reducible rfl)
        refine held_take 3 (v := ?_) rfl (by kernel_rfl) (by kernel_rfl) (by kernel_rfl) (fun _ _ _ h => h) (by rfl) ?_ hS0 ?_
        rotate_left
        · (intro W hW; obtain ⟨x0, m0, m1, m2, m3, m4, m5⟩ := nm6 (HX0.out.grew hW); obtain ⟨hb, hc⟩ := HCell.out W hW; go_simp; with_reducible rfl)
        refine held_take 4 (v := ?_) rfl (by kernel_rfl) (by kernel_rfl) (by kernel_rfl) (fun _ _ _ h => h) (by rfl) ?_ hS0 ?_
        rotate_left
        · (intro W hW; obtain ⟨x0, m0, m1, m2, m3, m4, m5⟩ := nm6 (HX0.out.grew hW); obtain ⟨hb, hc⟩ := HCell.out W hW; go_simp; with_reducible rfl)
        refine held_take 5 (v := ?_) rfl (by kernel_rfl) (by kernel_rfl) (by kernel_rfl) (fun _ _ _ h => h) (by rfl) ?_ hS0 ?_
        rotate_left
        · (intro W hW; obtain ⟨x0, m0, m1, m2, m3, m4, m5⟩ := nm6 (HX0.out.grew hW); obtain ⟨hb, hc⟩ := HCell.out W hW; go_simp; with_reducible rfl)
        refine held_take 6 (v := ?_) rfl (by kernel_rfl) (by kernel_rfl) (by kernel_rfl) (fun _ _ _ h => h) (by rfl) ?_ hS0 ?_
        rotate_left
        · (intro W hW; obtain ⟨x0, m0, m1, m2, m3, m4, m5⟩ := nm6 (HX0.out.grew hW); obtain ⟨hb, hc⟩ := HCell.out W hW; go_simp; with_reducible rfl)
        refine held_norm (a' := ?_) ?_ ?_
        rotate_left
        · (go_simp; with_reducible rfl)
        refine held_call 7 (by kernel_rfl) rfl (by rfl) (fun K hK => ?_)
        go_simp
        go_wp2_with ((go_at_call 70; (with_reducible refine (HW1.out _ hS0).mono ?_); rintro en w7 ⟨A7, k7, rfl, hg7, ho7⟩; have hS7 := hS0.trans hg7))
        refine hK.out _ _ hS7 ?_
        clear hK K
        refine held_call 8 (by kernel_rfl) rfl (by rfl) (fun K hK => ?_)
        go_simp
        go_wp2_with ((go_at_call 66; (with_reducible refine (HOf.out _ _ _ hS7 (own_rowI ho7)).mono ?_); rintro en w8 ⟨A8, k8, rfl, hg8, hr8⟩; have hS8 := hS7.trans hg8))
        refine hK.out _ _ hS8 ?_
        clear hK K
        refine held_take 9 (v := ?_) rfl (by kernel_rfl) (by kernel_rfl) (by kernel_rfl) (fun _ _ _ h => h) (by rfl) ?_ hS8 ?_
        rotate_left
        · (intro W hW; go_simp; with_reducible rfl)
        refine held_norm (a' := ?_) ?_ ?_
        rotate_left
        · (go_simp; with_reducible rfl)
        refine held_take 10 (v := ?_) rfl (by kernel_rfl) (by kernel_rfl) (by kernel_rfl) (fun _ _ _ h => h) (by rfl) ?_ hS8 ?_
        rotate_left
        · (intro W hW; go_simp; with_reducible rfl)
        refine held_take 11 (v := ?_) rfl (by kernel_rfl) (by kernel_rfl) (by kernel_rfl) (fun _ _ _ h => h) (by rfl) ?_ hS8 ?_
        rotate_left
        · (intro W hW; go_simp; with_reducible rfl)
        refine held_take 12 (v := ?_) rfl (by kernel_rfl) (by kernel_rfl) (by kernel_rfl) (fun _ _ _ h => h) (by rfl) ?_ hS8 ?_
        rotate_left
        · (intro W hW; go_simp; with_reducible rfl)
        refine held_take 13 (v := ?_) rfl (by kernel_rfl) (by kernel_rfl) (by kernel_rfl) (fun _ _ _ h => h) (by rfl) ?_ hS8 ?_
        rotate_left
        · (intro W hW; go_simp; with_reducible rfl)
        refine held_norm (a' := ?_) ?_ ?_
        rotate_left
        · (go_simp; with_reducible rfl)
        refine held_done (by kernel_rfl) ?_
        have HG8 := Lib.hid hS8
        have HR8 := Lib.hid hr8
        have HR1 := Lib.hid (HR.out.grew (hR0.trans (hg7.trans hg8)))
        clear hS0 hR0 hS7 hS8 hg7 hg8 ho7 hr8 HG HR HW1 HOf
        try simp only at HR8
        go_upto_region 10 with fail
        obtain ⟨W1, hW1⟩ : ∃ W1, W1 = w8.drew := ⟨_, rfl⟩
        have hS0 : Grew W0 W1 := by rw [hW1]; exact HG8.out.drew
        have hR0 : Grew w8 W1 := by rw [hW1]; exact (Grew.refl w8).drew
        refine wp_region_S (fun W => Grew W0 W) (by kernel_rfl) ?_
        rw [← hW1]
        clear hW1
        refine held_take 0 (v := ?_) rfl (by kernel_rfl) (by kernel_rfl) (by kernel_rfl) (fun _ _ _ h => h) (by rfl) ?_ hS0 ?_
        rotate_left
        · (intro W hW; obtain ⟨x0, m0, m1, m2, m3, m4, m5⟩ := nm6 (HX0.out.grew hW); obtain ⟨hb, hc⟩ := HCell.out W hW; go_simp; with_reducible rfl)
        refine held_take 1 (v := ?_) rfl (by kernel_rfl) (by kernel_rfl) (by kernel_rfl) (fun _ _ _ h => h) (by rfl) ?_ hS0 ?_
        rotate_left
        · (intro W hW; obtain ⟨x0, m0, m1, m2, m3, m4, m5⟩ := nm6 (HX0.out.grew hW); obtain ⟨hb, hc⟩ := HCell.out W hW; go_simp; with_reducible rfl)
        refine held_take 2 (v := ?_) rfl (by kernel_rfl) (by kernel_rfl) (by kernel_rfl) (fun _ _ _ h => h) (by rfl) ?_ hS0 ?_
        rotate_left
        · (intro W hW; obtain ⟨x0, m0, m1, m2, m3, m4, m5⟩ := nm6 (HX0.out.grew hW); obtain ⟨hb, hc⟩ := HCell.out W hW; go_simp; with_reducible rfl)
        refine held_take 3 (v := ?_) rfl (by kernel_rfl) (by kernel_rfl) (by kernel_rfl) (fun _ _ _ h => h) (by rfl) ?_ hS0 ?_
        rotate_left
        · (intro W hW; obtain ⟨x0, m0, m1, m2, m3, m4, m5⟩ := nm6 (HX0.out.grew hW); obtain ⟨hb, hc⟩ := HCell.out W hW; go_simp; with_reducible rfl)
        refine held_take 4 (v := ?_) rfl (by kernel_rfl) (by kernel_rfl) (by kernel_rfl) (fun _ _ _ h => h) (by rfl) ?_ hS0 ?_
        rotate_left
        · (intro W hW; obtain ⟨x0, m0, m1, m2, m3, m4, m5⟩ := nm6 (HX0.out.grew hW); obtain ⟨hb, hc⟩ := HCell.out W hW; go_simp; with_reducible rfl)
        refine held_take 5 (v := ?_) rfl (by kernel_rfl) (by kernel_rfl) (by kernel_rfl) (fun _ _ _ h => h) (by rfl) ?_ hS0 ?_
        rotate_left
        · (intro W hW; obtain ⟨x0, m0, m1, m2, m3, m4, m5⟩ := nm6 (HX0.out.grew hW); obtain ⟨hb, hc⟩ := HCell.out W hW; go_simp; with_reducible rfl)
        refine held_take 6 (v := ?_) rfl (by kernel_rfl) (by kernel_rfl) (by kernel_rfl) (fun _ _ _ h => h) (by rfl) ?_ hS0 ?_
        rotate_left
        · (intro W hW; obtain ⟨x0, m0, m1, m2, m3, m4, m5⟩ := nm6 (HX0.out.grew hW); obtain ⟨hb, hc⟩ := HCell.out W hW; go_simp; with_reducible rfl)
        refine held_take 8 (v := ?_) rfl (by kernel_rfl) (by kernel_rfl) (by kernel_rfl) (fun _ _ _ h => h) (by rfl) ?_ hS0 ?_
        rotate_left
        · (intro W hW; obtain ⟨x0, m0, m1, m2, m3, m4, m5⟩ := nm6 (HX0.out.grew hW); obtain ⟨hb, hc⟩ := HCell.out W hW; go_simp; with_reducible rfl)
        refine held_norm (a' := ?_) ?_ ?_
        rotate_left
        · (go_simp; with_reducible rfl)
        refine held_call 7 (by kernel_rfl) rfl (by rfl) (fun K hK => ?_)
        go_simp
        go_wp2_with ((go_at_call 12; (with_reducible refine (HSc.out _ hS0).grows.mono ?_); rintro en w9 ⟨rfl, hg9⟩; have hS9 := hS0.trans hg9))
        refine hK.out _ _ hS9 ?_
        clear hK K
        refine held_call 9 (by kernel_rfl) rfl (by rfl) (fun K hK => ?_)
        go_simp
        go_wp2_with fail
        refine hK.out _ _ (hS9.alloc _) ?_
        clear hK K
        refine held_call 10 (by kernel_rfl) rfl (by rfl) (fun K hK => ?_)
        go_simp
        go_wp2_with ((go_at_call 63; (with_reducible refine (radd3_any _ _ _ _ _ _ (row_new _ _ _ _ rfl)).mono ?_); rintro en wz ⟨rfl, hwz⟩; subst hwz))
        refine hK.out _ _ (hS9.alloc _) ?_
        clear hK K
        refine held_take 11 (v := ?_) rfl (by kernel_rfl) (by kernel_rfl) (by kernel_rfl) (fun _ _ _ h => h) (by rfl) ?_ (hS9.alloc _) ?_
        rotate_left
        · (intro W hW; go_simp; with_reducible rfl)
        refine held_norm (a' := ?_) ?_ ?_
        rotate_left
        · (go_simp; with_reducible rfl)
        refine held_done (by kernel_rfl) ?_
        have HGa := Lib.hid (hS9.alloc (.cells #[.int .i64 r2, .int .i64 st, .int .i64 zl] 3))
        have HRa := Lib.hid (HR8.out.grew ((hR0.trans hg9).alloc (.cells #[.int .i64 r2, .int .i64 st, .int .i64 zl] 3)))
        have HRb := Lib.hid (HR1.out.grew ((hR0.trans hg9).alloc (.cells #[.int .i64 r2, .int .i64 st, .int .i64 zl] 3)))
        clear hS0 hR0 hS9 hg9 HG8 HR8 HR1 HSc
        generalize (w9.alloc (.cells #[.int .i64 r2, .int .i64 st, .int .i64 zl] 3)) = WB at *
        generalize stepA r2 st zl = cn at *
        by_cases hc : q = 0 ∨ cn < rc
        · have HPn : Hid (pickTo (candB sc sz l) l (q + 1) = (r1 ++ [t], cn)) := Lib.hid (by rw [HPs.out, if_pos hc])
          have hq1 : q + 1 ≤ 100 := by omega
          have HL1 : Hid ((iV r1).length = r1.length * 1) := Lib.hid (by simp [iV])
          have H11 := Lib.hid (iV_one r1)
          have HGB := HGa
          have HR8 := HRa
          have hcc : (((q : Int) == 0) = true) ∨ (((q : Int) == 0) = false ∧ cn < rc) := by
            by_cases h0 : q = 0
            · exact Or.inl (by rw [h0]; rfl)
            · exact Or.inr ⟨by simp; omega, by rcases hc with hc | hc; exact absurd hc h0; exact hc⟩
          clear HGa HRa HRb hc HPs
          rcases hcc with e0 | ⟨e0, hlc⟩
          · go_upto_region 12 with fail
            obtain ⟨W1, hW1⟩ : ∃ W1, W1 = WB.drew := ⟨_, rfl⟩
            have hS0 : Grew W0 W1 := by rw [hW1]; exact HGB.out.drew
            have HG1 : Hid (Grew WB W1) := Lib.hid (by rw [hW1]; exact (Grew.refl WB).drew)
            go_cut [9] (fun v wx => ∃ A k, v = .slice A (r1 ++ [t]).length k ∧ Row wx A (iV (r1 ++ [t])) ∧ Grew W0 wx)
            case first =>
              refine wp_region_S (fun W => Grew W0 W) (by kernel_rfl) ?_
              rw [← hW1]
              clear hW1
              refine held_take 1 (v := ?_) rfl (by kernel_rfl) (by kernel_rfl) (by kernel_rfl) (fun _ _ _ h => h) (by rfl) ?_ hS0 ?_
              rotate_left
              · (intro W hW; obtain ⟨hb, hc⟩ := HCell.out W hW; go_simp; with_reducible rfl)
              refine held_take 3 (v := ?_) rfl (by kernel_rfl) (by kernel_rfl) (by kernel_rfl) (fun _ _ _ h => h) (by rfl) ?_ hS0 ?_
              rotate_left
              · (intro W hW; obtain ⟨hb, hc⟩ := HCell.out W hW; go_simp; with_reducible rfl)
              refine held_take 4 (v := ?_) rfl (by kernel_rfl) (by kernel_rfl) (by kernel_rfl) (fun _ _ _ h => h) (by rfl) ?_ hS0 ?_
              rotate_left
              · (intro W hW; obtain ⟨hb, hc⟩ := HCell.out W hW; go_simp; with_reducible rfl)
              refine held_take 5 (v := ?_) rfl (by kernel_rfl) (by kernel_rfl) (by kernel_rfl) (fun _ _ _ h => h) (by rfl) ?_ hS0 ?_
              rotate_left
              · (intro W hW; obtain ⟨hb, hc⟩ := HCell.out W hW; go_simp; with_reducible rfl)
              refine held_take 6 (v := ?_) rfl (by kernel_rfl) (by kernel_rfl) (by kernel_rfl) (fun _ _ _ h => h) (by rfl) ?_ hS0 ?_
              rotate_left
              · (intro W hW; obtain ⟨hb, hc⟩ := HCell.out W hW; go_simp; with_reducible rfl)
              refine held_norm (a' := ?_) ?_ ?_
              rotate_left
              · (go_simp; with_reducible rfl)
              refine held_pairO 0 7 (by kernel_rfl) rfl rfl (by rfl) (by rfl) (fun K hK => ?_) (fun K hK => ?_)
              · go_simp
                go_wp2_with fail
                refine hK.out _ _ ((hS0).alloc _) ?_
                clear hK K
                obtain ⟨Wa, hWa⟩ : ∃ Wa, Wa = W1.alloc (.cells #[] 3) := ⟨_, rfl⟩
                obtain ⟨ba, hba⟩ : ∃ ba, ba = W1.heap.size := ⟨_, rfl⟩
                have hSa : Grew W0 Wa := by rw [hWa]; exact (hS0).alloc _
                have hSa' : Grew W1 Wa := by rw [hWa]; exact (Grew.refl _).alloc _
                have hoa : Wa.ownsRow W0.heap.size 3 1 (.slice (some ⟨ba, 0, none⟩) 0 0) 0 [] := by rw [hWa]; exact own_empty W1 _ _ _ _ hba (by rw [hba]; exact (hS0).size)
                rw [← hWa, ← hba]
                have hbl : ba < Wa.heap.size := by rw [hWa, hba, World.size_alloc]; omega
                have hbig0 : W1.heap.size ≤ ba := by rw [hba]; exact Nat.le_refl _
                clear hWa hba
                refine held_pairO 2 7 (by kernel_rfl) rfl rfl (by rfl) (by rfl) (fun K hK => ?_) (fun K hK => ?_)
                · refine wp_appB (.tmp 58) (.tmp 59) 31 3 1 rfl W0.heap.size (.int .i64 0) 8 Tryz.underlying31 infoI rfl (by decide) (by decide) _ 0 [] rfl (hoa) _ r1.length k8 (iV r1) rfl HL1.out (HR8.out.grew (HG1.out.trans hSa')) H11.out (by omega) (by have := (hSa).size; omega) ?_
                  intro A2 c2 w2 ho2 hb2
                  have hS2 : Grew W0 w2 := (hSa).grown hb2 (own_base (hoa))
                  refine hK.out _ _ hS2 ?_
                  clear hK K
                  refine held_call 7 (by kernel_rfl) rfl (by rfl) (fun K hK => ?_)
                  go_simp
                  go_wp2_with fail
                  refine hK.out _ _ ((hS2).alloc _) ?_
                  clear hK K
                  obtain ⟨Wb, hWb⟩ : ∃ Wb, Wb = w2.alloc (.cells #[.int .i64 t] 3) := ⟨_, rfl⟩
                  obtain ⟨bb, hbb⟩ : ∃ bb, bb = w2.heap.size := ⟨_, rfl⟩
                  have hSb : Grew W0 Wb := by rw [hWb]; exact (hS2).alloc _
                  have hSb' : Grew w2 Wb := by rw [hWb]; exact (Grew.refl _).alloc _
                  have hBb : Blok Wb bb 3 #[.int .i64 t] := by rw [hWb]; exact Blok.new _ _ _ _ hbb
                  rw [← hWb, ← hbb]
                  have hbig : w2.heap.size ≤ bb := by rw [hbb]; exact Nat.le_refl _
                  clear hWb hbb
                  refine held_call 8 (by kernel_rfl) rfl (by rfl) (fun K hK => ?_)
                  have ho2n := own_grewE ho2 hSb'
                  rw [Nat.zero_add, List.nil_append] at ho2n
                  refine wp_appB (.tmp 60) (.tmp 65) 31 3 1 rfl W0.heap.size (.int .i64 0) 8 Tryz.underlying31 infoI rfl (by decide) (by decide) _ (r1.length) (iV r1) rfl (ho2n) _ 1 1 [.int .i64 t] rfl rfl (row_blokO hBb) (by simp [Value.oneCell']) (by omega) (by have := (hSb).size; omega) ?_
                  intro A3 c3 w3 ho3 hb3
                  have hS3 : Grew W0 w3 := (hSb).grown hb3 (own_base (ho2n))
                  have ho3' : w3.ownsRow W0.heap.size 3 1 (.slice A3 (r1 ++ [t]).length c3) (r1 ++ [t]).length (iV (r1 ++ [t])) := by
                    have h3 := ho3
                    try rw [List.nil_append, Nat.zero_add] at h3
                    rw [List.length_append, show iV (r1 ++ [t]) = iV r1 ++ [.int .i64 t] by simp [iV]]
                    exact h3
                  refine hK.out _ _ hS3 ?_
                  clear hK K
                  refine held_take 9 (v := ?_) rfl (by kernel_rfl) (by kernel_rfl) (by kernel_rfl) (fun _ _ _ h => h) (by rfl) ?_ hS3 ?_
                  rotate_left
                  · (intro W hW; go_simp; with_reducible rfl)
                  refine held_norm (a' := ?_) ?_ ?_
                  rotate_left
                  · (go_simp; with_reducible rfl)
                  refine held_done (by kernel_rfl) ?_
                  go_wp2_with fail
                  go_meet
                  exact ⟨A3, c3, by first | rfl | (rw [List.length_append, Nat.zero_add]; rfl) | (rw [List.length_append]; rfl) | simp, own_rowI ho3', hS3⟩
                · go_simp
                  go_wp2_with fail
                  refine hK.out _ _ ((hSa).alloc _) ?_
                  clear hK K
                  obtain ⟨Wb, hWb⟩ : ∃ Wb, Wb = Wa.alloc (.cells #[.int .i64 t] 3) := ⟨_, rfl⟩
                  obtain ⟨bb, hbb⟩ : ∃ bb, bb = Wa.heap.size := ⟨_, rfl⟩
                  have hSb : Grew W0 Wb := by rw [hWb]; exact (hSa).alloc _
                  have hSb' : Grew Wa Wb := by rw [hWb]; exact (Grew.refl _).alloc _
                  have hBb : Blok Wb bb 3 #[.int .i64 t] := by rw [hWb]; exact Blok.new _ _ _ _ hbb
                  rw [← hWb, ← hbb]
                  have hbig : Wa.heap.size ≤ bb := by rw [hbb]; exact Nat.le_refl _
                  clear hWb hbb
                  have hne : some bb ≠ some ba := fun h => by injection h with h; omega
                  have hoa2 := own_grewE hoa hSb'
                  refine held_call 2 (by kernel_rfl) rfl (by rfl) (fun K hK => ?_)
                  refine wp_appB (.tmp 58) (.tmp 59) 31 3 1 rfl W0.heap.size (.int .i64 0) 8 Tryz.underlying31 infoI rfl (by decide) (by decide) _ 0 [] rfl (hoa2) _ r1.length k8 (iV r1) rfl HL1.out (HR8.out.grew (HG1.out.trans (hSa'.trans hSb'))) H11.out (by omega) (by have := (hSb).size; omega) ?_
                  intro A2 c2 w2 ho2 hb2
                  have hS2 : Grew W0 w2 := (hSb).grown hb2 (own_base (hoa2))
                  refine hK.out _ _ hS2 ?_
                  clear hK K
                  have hBc := hBb.grown hb2 (fun h => hne h.symm)
                  refine held_call 8 (by kernel_rfl) rfl (by rfl) (fun K hK => ?_)
                  refine wp_appB (.tmp 60) (.tmp 65) 31 3 1 rfl W0.heap.size (.int .i64 0) 8 Tryz.underlying31 infoI rfl (by decide) (by decide) _ (0 + r1.length) ([] ++ iV r1) rfl (ho2) _ 1 1 [.int .i64 t] rfl rfl (row_blokO hBc) (by simp [Value.oneCell']) (by omega) (by have := (hS2).size; omega) ?_
                  intro A3 c3 w3 ho3 hb3
                  have hS3 : Grew W0 w3 := (hS2).grown hb3 (own_base (ho2))
                  have ho3' : w3.ownsRow W0.heap.size 3 1 (.slice A3 (r1 ++ [t]).length c3) (r1 ++ [t]).length (iV (r1 ++ [t])) := by
                    have h3 := ho3
                    try rw [List.nil_append, Nat.zero_add] at h3
                    rw [List.length_append, show iV (r1 ++ [t]) = iV r1 ++ [.int .i64 t] by simp [iV]]
                    exact h3
                  refine hK.out _ _ hS3 ?_
                  clear hK K
                  refine held_take 9 (v := ?_) rfl (by kernel_rfl) (by kernel_rfl) (by kernel_rfl) (fun _ _ _ h => h) (by rfl) ?_ hS3 ?_
                  rotate_left
                  · (intro W hW; go_simp; with_reducible rfl)
                  refine held_norm (a' := ?_) ?_ ?_
                  rotate_left
                  · (go_simp; with_reducible rfl)
                  refine held_done (by kernel_rfl) ?_
                  go_wp2_with fail
                  go_meet
                  exact ⟨A3, c3, by first | rfl | (rw [List.length_append, Nat.zero_add]; rfl) | (rw [List.length_append]; rfl) | simp, own_rowI ho3', hS3⟩
              · go_simp
                go_wp2_with fail
                refine hK.out _ _ ((hS0).alloc _) ?_
                clear hK K
                obtain ⟨Wb, hWb⟩ : ∃ Wb, Wb = W1.alloc (.cells #[.int .i64 t] 3) := ⟨_, rfl⟩
                obtain ⟨bb, hbb⟩ : ∃ bb, bb = W1.heap.size := ⟨_, rfl⟩
                have hSb : Grew W0 Wb := by rw [hWb]; exact (hS0).alloc _
                have hSb' : Grew W1 Wb := by rw [hWb]; exact (Grew.refl _).alloc _
                have hBb : Blok Wb bb 3 #[.int .i64 t] := by rw [hWb]; exact Blok.new _ _ _ _ hbb
                rw [← hWb, ← hbb]
                have hbig : W1.heap.size ≤ bb := by rw [hbb]; exact Nat.le_refl _
                clear hWb hbb
                refine held_call 0 (by kernel_rfl) rfl (by rfl) (fun K hK => ?_)
                go_simp
                go_wp2_with fail
                refine hK.out _ _ ((hSb).alloc _) ?_
                clear hK K
                obtain ⟨Wa, hWa⟩ : ∃ Wa, Wa = Wb.alloc (.cells #[] 3) := ⟨_, rfl⟩
                obtain ⟨ba, hba⟩ : ∃ ba, ba = Wb.heap.size := ⟨_, rfl⟩
                have hSa : Grew W0 Wa := by rw [hWa]; exact (hSb).alloc _
                have hSa' : Grew Wb Wa := by rw [hWa]; exact (Grew.refl _).alloc _
                have hoa : Wa.ownsRow W0.heap.size 3 1 (.slice (some ⟨ba, 0, none⟩) 0 0) 0 [] := by rw [hWa]; exact own_empty Wb _ _ _ _ hba (by rw [hba]; exact (hSb).size)
                rw [← hWa, ← hba]
                have hbl : ba < Wa.heap.size := by rw [hWa, hba, World.size_alloc]; omega
                have hbig0 : Wb.heap.size ≤ ba := by rw [hba]; exact Nat.le_refl _
                clear hWa hba
                have hBa := hBb.grew hSa'
                have hne : some bb ≠ some ba := fun h => by injection h with h; have := hBb.lt; omega
                refine held_call 2 (by kernel_rfl) rfl (by rfl) (fun K hK => ?_)
                refine wp_appB (.tmp 58) (.tmp 59) 31 3 1 rfl W0.heap.size (.int .i64 0) 8 Tryz.underlying31 infoI rfl (by decide) (by decide) _ 0 [] rfl (hoa) _ r1.length k8 (iV r1) rfl HL1.out (HR8.out.grew (HG1.out.trans (hSb'.trans hSa'))) H11.out (by omega) (by have := (hSa).size; omega) ?_
                intro A2 c2 w2 ho2 hb2
                have hS2 : Grew W0 w2 := (hSa).grown hb2 (own_base (hoa))
                refine hK.out _ _ hS2 ?_
                clear hK K
                have hBc := hBa.grown hb2 (fun h => hne h.symm)
                refine held_call 8 (by kernel_rfl) rfl (by rfl) (fun K hK => ?_)
                refine wp_appB (.tmp 60) (.tmp 65) 31 3 1 rfl W0.heap.size (.int .i64 0) 8 Tryz.underlying31 infoI rfl (by decide) (by decide) _ (0 + r1.length) ([] ++ iV r1) rfl (ho2) _ 1 1 [.int .i64 t] rfl rfl (row_blokO hBc) (by simp [Value.oneCell']) (by omega) (by have := (hS2).size; omega) ?_
                intro A3 c3 w3 ho3 hb3
                have hS3 : Grew W0 w3 := (hS2).grown hb3 (own_base (ho2))
                have ho3' : w3.ownsRow W0.heap.size 3 1 (.slice A3 (r1 ++ [t]).length c3) (r1 ++ [t]).length (iV (r1 ++ [t])) := by
                  have h3 := ho3
                  try rw [List.nil_append, Nat.zero_add] at h3
                  rw [List.length_append, show iV (r1 ++ [t]) = iV r1 ++ [.int .i64 t] by simp [iV]]
                  exact h3
                refine hK.out _ _ hS3 ?_
                clear hK K
                refine held_take 9 (v := ?_) rfl (by kernel_rfl) (by kernel_rfl) (by kernel_rfl) (fun _ _ _ h => h) (by rfl) ?_ hS3 ?_
                rotate_left
                · (intro W hW; go_simp; with_reducible rfl)
                refine held_norm (a' := ?_) ?_ ?_
                rotate_left
                · (go_simp; with_reducible rfl)
                refine held_done (by kernel_rfl) ?_
                go_wp2_with fail
                go_meet
                exact ⟨A3, c3, by first | rfl | (rw [List.length_append, Nat.zero_add]; rfl) | (rw [List.length_append]; rfl) | simp, own_rowI ho3', hS3⟩
            case rest =>
              obtain ⟨A9, k9, rfl, hr9, hg9⟩ := hcut
              have HR9 := Lib.hid hr9
              have HG9 := Lib.hid hg9
              clear hr9 hg9 hS0 hW1
              go_wp2
              exact ⟨⟨q + 1, (r1 ++ [t], cn), A9, k9, by omega, HPn.out, by go_num, rfl, rfl, HG9.out, HR9.out⟩, by simp only [intOf]; omega⟩
          · have e1 : decide (cn < rc) = true := decide_eq_true hlc
            clear hlc
            go_upto_region 12 with fail
            obtain ⟨W1, hW1⟩ : ∃ W1, W1 = WB.drew := ⟨_, rfl⟩
            have hS0 : Grew W0 W1 := by rw [hW1]; exact HGB.out.drew
            have HG1 : Hid (Grew WB W1) := Lib.hid (by rw [hW1]; exact (Grew.refl WB).drew)
            go_cut [9] (fun v wx => ∃ A k, v = .slice A (r1 ++ [t]).length k ∧ Row wx A (iV (r1 ++ [t])) ∧ Grew W0 wx)
            case first =>
              refine wp_region_S (fun W => Grew W0 W) (by kernel_rfl) ?_
              rw [← hW1]
              clear hW1
              refine held_take 1 (v := ?_) rfl (by kernel_rfl) (by kernel_rfl) (by kernel_rfl) (fun _ _ _ h => h) (by rfl) ?_ hS0 ?_
              rotate_left
              · (intro W hW; obtain ⟨hb, hc⟩ := HCell.out W hW; go_simp; with_reducible rfl)
              refine held_take 3 (v := ?_) rfl (by kernel_rfl) (by kernel_rfl) (by kernel_rfl) (fun _ _ _ h => h) (by rfl) ?_ hS0 ?_
              rotate_left
              · (intro W hW; obtain ⟨hb, hc⟩ := HCell.out W hW; go_simp; with_reducible rfl)
              refine held_take 4 (v := ?_) rfl (by kernel_rfl) (by kernel_rfl) (by kernel_rfl) (fun _ _ _ h => h) (by rfl) ?_ hS0 ?_
              rotate_left
              · (intro W hW; obtain ⟨hb, hc⟩ := HCell.out W hW; go_simp; with_reducible rfl)
              refine held_take 5 (v := ?_) rfl (by kernel_rfl) (by kernel_rfl) (by kernel_rfl) (fun _ _ _ h => h) (by rfl) ?_ hS0 ?_
              rotate_left
              · (intro W hW; obtain ⟨hb, hc⟩ := HCell.out W hW; go_simp; with_reducible rfl)
              refine held_take 6 (v := ?_) rfl (by kernel_rfl) (by kernel_rfl) (by kernel_rfl) (fun _ _ _ h => h) (by rfl) ?_ hS0 ?_
              rotate_left
              · (intro W hW; obtain ⟨hb, hc⟩ := HCell.out W hW; go_simp; with_reducible rfl)
              refine held_norm (a' := ?_) ?_ ?_
              rotate_left
              · (go_simp; with_reducible rfl)
              refine held_pairO 0 7 (by kernel_rfl) rfl rfl (by rfl) (by rfl) (fun K hK => ?_) (fun K hK => ?_)
              · go_simp
                go_wp2_with fail
                refine hK.out _ _ ((hS0).alloc _) ?_
                clear hK K
                obtain ⟨Wa, hWa⟩ : ∃ Wa, Wa = W1.alloc (.cells #[] 3) := ⟨_, rfl⟩
                obtain ⟨ba, hba⟩ : ∃ ba, ba = W1.heap.size := ⟨_, rfl⟩
                have hSa : Grew W0 Wa := by rw [hWa]; exact (hS0).alloc _
                have hSa' : Grew W1 Wa := by rw [hWa]; exact (Grew.refl _).alloc _
                have hoa : Wa.ownsRow W0.heap.size 3 1 (.slice (some ⟨ba, 0, none⟩) 0 0) 0 [] := by rw [hWa]; exact own_empty W1 _ _ _ _ hba (by rw [hba]; exact (hS0).size)
                rw [← hWa, ← hba]
                have hbl : ba < Wa.heap.size := by rw [hWa, hba, World.size_alloc]; omega
                have hbig0 : W1.heap.size ≤ ba := by rw [hba]; exact Nat.le_refl _
                clear hWa hba
                refine held_pairO 2 7 (by kernel_rfl) rfl rfl (by rfl) (by rfl) (fun K hK => ?_) (fun K hK => ?_)
                · refine wp_appB (.tmp 58) (.tmp 59) 31 3 1 rfl W0.heap.size (.int .i64 0) 8 Tryz.underlying31 infoI rfl (by decide) (by decide) _ 0 [] rfl (hoa) _ r1.length k8 (iV r1) rfl HL1.out (HR8.out.grew (HG1.out.trans hSa')) H11.out (by omega) (by have := (hSa).size; omega) ?_
                  intro A2 c2 w2 ho2 hb2
                  have hS2 : Grew W0 w2 := (hSa).grown hb2 (own_base (hoa))
                  refine hK.out _ _ hS2 ?_
                  clear hK K
                  refine held_call 7 (by kernel_rfl) rfl (by rfl) (fun K hK => ?_)
                  go_simp
                  go_wp2_with fail
                  refine hK.out _ _ ((hS2).alloc _) ?_
                  clear hK K
                  obtain ⟨Wb, hWb⟩ : ∃ Wb, Wb = w2.alloc (.cells #[.int .i64 t] 3) := ⟨_, rfl⟩
                  obtain ⟨bb, hbb⟩ : ∃ bb, bb = w2.heap.size := ⟨_, rfl⟩
                  have hSb : Grew W0 Wb := by rw [hWb]; exact (hS2).alloc _
                  have hSb' : Grew w2 Wb := by rw [hWb]; exact (Grew.refl _).alloc _
                  have hBb : Blok Wb bb 3 #[.int .i64 t] := by rw [hWb]; exact Blok.new _ _ _ _ hbb
                  rw [← hWb, ← hbb]
                  have hbig : w2.heap.size ≤ bb := by rw [hbb]; exact Nat.le_refl _
                  clear hWb hbb
                  refine held_call 8 (by kernel_rfl) rfl (by rfl) (fun K hK => ?_)
                  have ho2n := own_grewE ho2 hSb'
                  rw [Nat.zero_add, List.nil_append] at ho2n
                  refine wp_appB (.tmp 60) (.tmp 65) 31 3 1 rfl W0.heap.size (.int .i64 0) 8 Tryz.underlying31 infoI rfl (by decide) (by decide) _ (r1.length) (iV r1) rfl (ho2n) _ 1 1 [.int .i64 t] rfl rfl (row_blokO hBb) (by simp [Value.oneCell']) (by omega) (by have := (hSb).size; omega) ?_
                  intro A3 c3 w3 ho3 hb3
                  have hS3 : Grew W0 w3 := (hSb).grown hb3 (own_base (ho2n))
                  have ho3' : w3.ownsRow W0.heap.size 3 1 (.slice A3 (r1 ++ [t]).length c3) (r1 ++ [t]).length (iV (r1 ++ [t])) := by
                    have h3 := ho3
                    try rw [List.nil_append, Nat.zero_add] at h3
                    rw [List.length_append, show iV (r1 ++ [t]) = iV r1 ++ [.int .i64 t] by simp [iV]]
                    exact h3
                  refine hK.out _ _ hS3 ?_
                  clear hK K
                  refine held_take 9 (v := ?_) rfl (by kernel_rfl) (by kernel_rfl) (by kernel_rfl) (fun _ _ _ h => h) (by rfl) ?_ hS3 ?_
                  rotate_left
                  · (intro W hW; go_simp; with_reducible rfl)
                  refine held_norm (a' := ?_) ?_ ?_
                  rotate_left
                  · (go_simp; with_reducible rfl)
                  refine held_done (by kernel_rfl) ?_
                  go_wp2_with fail
                  go_meet
                  exact ⟨A3, c3, by first | rfl | (rw [List.length_append, Nat.zero_add]; rfl) | (rw [List.length_append]; rfl) | simp, own_rowI ho3', hS3⟩
                · go_simp
                  go_wp2_with fail
                  refine hK.out _ _ ((hSa).alloc _) ?_
                  clear hK K
                  obtain ⟨Wb, hWb⟩ : ∃ Wb, Wb = Wa.alloc (.cells #[.int .i64 t] 3) := ⟨_, rfl⟩
                  obtain ⟨bb, hbb⟩ : ∃ bb, bb = Wa.heap.size := ⟨_, rfl⟩
                  have hSb : Grew W0 Wb := by rw [hWb]; exact (hSa).alloc _
                  have hSb' : Grew Wa Wb := by rw [hWb]; exact (Grew.refl _).alloc _
                  have hBb : Blok Wb bb 3 #[.int .i64 t] := by rw [hWb]; exact Blok.new _ _ _ _ hbb
                  rw [← hWb, ← hbb]
                  have hbig : Wa.heap.size ≤ bb := by rw [hbb]; exact Nat.le_refl _
                  clear hWb hbb
                  have hne : some bb ≠ some ba := fun h => by injection h with h; omega
                  have hoa2 := own_grewE hoa hSb'
                  refine held_call 2 (by kernel_rfl) rfl (by rfl) (fun K hK => ?_)
                  refine wp_appB (.tmp 58) (.tmp 59) 31 3 1 rfl W0.heap.size (.int .i64 0) 8 Tryz.underlying31 infoI rfl (by decide) (by decide) _ 0 [] rfl (hoa2) _ r1.length k8 (iV r1) rfl HL1.out (HR8.out.grew (HG1.out.trans (hSa'.trans hSb'))) H11.out (by omega) (by have := (hSb).size; omega) ?_
                  intro A2 c2 w2 ho2 hb2
                  have hS2 : Grew W0 w2 := (hSb).grown hb2 (own_base (hoa2))
                  refine hK.out _ _ hS2 ?_
                  clear hK K
                  have hBc := hBb.grown hb2 (fun h => hne h.symm)
                  refine held_call 8 (by kernel_rfl) rfl (by rfl) (fun K hK => ?_)
                  refine wp_appB (.tmp 60) (.tmp 65) 31 3 1 rfl W0.heap.size (.int .i64 0) 8 Tryz.underlying31 infoI rfl (by decide) (by decide) _ (0 + r1.length) ([] ++ iV r1) rfl (ho2) _ 1 1 [.int .i64 t] rfl rfl (row_blokO hBc) (by simp [Value.oneCell']) (by omega) (by have := (hS2).size; omega) ?_
                  intro A3 c3 w3 ho3 hb3
                  have hS3 : Grew W0 w3 := (hS2).grown hb3 (own_base (ho2))
                  have ho3' : w3.ownsRow W0.heap.size 3 1 (.slice A3 (r1 ++ [t]).length c3) (r1 ++ [t]).length (iV (r1 ++ [t])) := by
                    have h3 := ho3
                    try rw [List.nil_append, Nat.zero_add] at h3
                    rw [List.length_append, show iV (r1 ++ [t]) = iV r1 ++ [.int .i64 t] by simp [iV]]
                    exact h3
                  refine hK.out _ _ hS3 ?_
                  clear hK K
                  refine held_take 9 (v := ?_) rfl (by kernel_rfl) (by kernel_rfl) (by kernel_rfl) (fun _ _ _ h => h) (by rfl) ?_ hS3 ?_
                  rotate_left
                  · (intro W hW; go_simp; with_reducible rfl)
                  refine held_norm (a' := ?_) ?_ ?_
                  rotate_left
                  · (go_simp; with_reducible rfl)
                  refine held_done (by kernel_rfl) ?_
                  go_wp2_with fail
                  go_meet
                  exact ⟨A3, c3, by first | rfl | (rw [List.length_append, Nat.zero_add]; rfl) | (rw [List.length_append]; rfl) | simp, own_rowI ho3', hS3⟩
              · go_simp
                go_wp2_with fail
                refine hK.out _ _ ((hS0).alloc _) ?_
                clear hK K
                obtain ⟨Wb, hWb⟩ : ∃ Wb, Wb = W1.alloc (.cells #[.int .i64 t] 3) := ⟨_, rfl⟩
                obtain ⟨bb, hbb⟩ : ∃ bb, bb = W1.heap.size := ⟨_, rfl⟩
                have hSb : Grew W0 Wb := by rw [hWb]; exact (hS0).alloc _
                have hSb' : Grew W1 Wb := by rw [hWb]; exact (Grew.refl _).alloc _
                have hBb : Blok Wb bb 3 #[.int .i64 t] := by rw [hWb]; exact Blok.new _ _ _ _ hbb
                rw [← hWb, ← hbb]
                have hbig : W1.heap.size ≤ bb := by rw [hbb]; exact Nat.le_refl _
                clear hWb hbb
                refine held_call 0 (by kernel_rfl) rfl (by rfl) (fun K hK => ?_)
                go_simp
                go_wp2_with fail
                refine hK.out _ _ ((hSb).alloc _) ?_
                clear hK K
                obtain ⟨Wa, hWa⟩ : ∃ Wa, Wa = Wb.alloc (.cells #[] 3) := ⟨_, rfl⟩
                obtain ⟨ba, hba⟩ : ∃ ba, ba = Wb.heap.size := ⟨_, rfl⟩
                have hSa : Grew W0 Wa := by rw [hWa]; exact (hSb).alloc _
                have hSa' : Grew Wb Wa := by rw [hWa]; exact (Grew.refl _).alloc _
                have hoa : Wa.ownsRow W0.heap.size 3 1 (.slice (some ⟨ba, 0, none⟩) 0 0) 0 [] := by rw [hWa]; exact own_empty Wb _ _ _ _ hba (by rw [hba]; exact (hSb).size)
                rw [← hWa, ← hba]
                have hbl : ba < Wa.heap.size := by rw [hWa, hba, World.size_alloc]; omega
                have hbig0 : Wb.heap.size ≤ ba := by rw [hba]; exact Nat.le_refl _
                clear hWa hba
                have hBa := hBb.grew hSa'
                have hne : some bb ≠ some ba := fun h => by injection h with h; have := hBb.lt; omega
                refine held_call 2 (by kernel_rfl) rfl (by rfl) (fun K hK => ?_)
                refine wp_appB (.tmp 58) (.tmp 59) 31 3 1 rfl W0.heap.size (.int .i64 0) 8 Tryz.underlying31 infoI rfl (by decide) (by decide) _ 0 [] rfl (hoa) _ r1.length k8 (iV r1) rfl HL1.out (HR8.out.grew (HG1.out.trans (hSb'.trans hSa'))) H11.out (by omega) (by have := (hSa).size; omega) ?_
                intro A2 c2 w2 ho2 hb2
                have hS2 : Grew W0 w2 := (hSa).grown hb2 (own_base (hoa))
                refine hK.out _ _ hS2 ?_
                clear hK K
                have hBc := hBa.grown hb2 (fun h => hne h.symm)
                refine held_call 8 (by kernel_rfl) rfl (by rfl) (fun K hK => ?_)
                refine wp_appB (.tmp 60) (.tmp 65) 31 3 1 rfl W0.heap.size (.int .i64 0) 8 Tryz.underlying31 infoI rfl (by decide) (by decide) _ (0 + r1.length) ([] ++ iV r1) rfl (ho2) _ 1 1 [.int .i64 t] rfl rfl (row_blokO hBc) (by simp [Value.oneCell']) (by omega) (by have := (hS2).size; omega) ?_
                intro A3 c3 w3 ho3 hb3
                have hS3 : Grew W0 w3 := (hS2).grown hb3 (own_base (ho2))
                have ho3' : w3.ownsRow W0.heap.size 3 1 (.slice A3 (r1 ++ [t]).length c3) (r1 ++ [t]).length (iV (r1 ++ [t])) := by
                  have h3 := ho3
                  try rw [List.nil_append, Nat.zero_add] at h3
                  rw [List.length_append, show iV (r1 ++ [t]) = iV r1 ++ [.int .i64 t] by simp [iV]]
                  exact h3
                refine hK.out _ _ hS3 ?_
                clear hK K
                refine held_take 9 (v := ?_) rfl (by kernel_rfl) (by kernel_rfl) (by kernel_rfl) (fun _ _ _ h => h) (by rfl) ?_ hS3 ?_
                rotate_left
                · (intro W hW; go_simp; with_reducible rfl)
                refine held_norm (a' := ?_) ?_ ?_
                rotate_left
                · (go_simp; with_reducible rfl)
                refine held_done (by kernel_rfl) ?_
                go_wp2_with fail
                go_meet
                exact ⟨A3, c3, by first | rfl | (rw [List.length_append, Nat.zero_add]; rfl) | (rw [List.length_append]; rfl) | simp, own_rowI ho3', hS3⟩
            case rest =>
              obtain ⟨A9, k9, rfl, hr9, hg9⟩ := hcut
              have HR9 := Lib.hid hr9
              have HG9 := Lib.hid hg9
              clear hr9 hg9 hS0 hW1
              go_wp2
              exact ⟨⟨q + 1, (r1 ++ [t], cn), A9, k9, by omega, HPn.out, by go_num, rfl, rfl, HG9.out, HR9.out⟩, by simp only [intOf]; omega⟩
        · have HPn : Hid (pickTo (candB sc sz l) l (q + 1) = (rl, rc)) := Lib.hid (by rw [HPs.out, if_neg hc])
          have hq1 : q + 1 ≤ 100 := by omega
          have e0 : ((q : Int) == 0) = false := by simp; omega
          have e1 : decide (cn < rc) = false := decide_eq_false (by omega)
          clear hc
          go_wp2
          exact ⟨⟨q + 1, (rl, rc), A1, k1, by omega, HPn.out, by go_num, rfl, rfl, HGa.out, HRb.out⟩, by simp only [intOf]; omega⟩
      · obtain rfl : q = l.length := by omega
        go_wp2
        first | exact HFin.out _ _ _ _ HP.out HG.out HR.out | (go_ret2; exact HFin.out _ _ _ _ HP.out HG.out HR.out)
end Go.Proofs.YtbglmcebkpkccaaGreatDoor

/- Layer 30: the best order by the document, and which one is picked. Condition: no more than six tables. -/
namespace Go.Proofs.YtbglmcebkpkccaaGreatDoor
open Go.RowKit
attribute [local go_sem] more_cell more_frozen more_more more_setCell more_of_drew more_of_drewN lt_more le_more past_cell past_cell2 past_frozen past_frozen2 past_setCell past_setCell2 mid_cell mid_frozen mid_setCell
attribute [local go_sem] fldC0 fldC1 fldS0
attribute [local go_sem ↓] Go.wp_at_zero Go.wp_at_succ

set_option maxHeartbeats 4000000 in
set_option maxRecDepth 100000 in
/-- The best order of all tables, by the document: no more than six. -/
theorem rbest_any (sc : Int → Int) (sz : List Int → Int) (sts : Value) (x : Nm) (hx : x.scan.length ≤ 6) (X : Option Addr) (kx : Nat) (B : Option Addr) (j : Nat) (C : Option Addr) (c0 : Nat) (D : Option Addr) (d : Nat) (E : Option Addr) (e : Nat) (w : World)
    (hK : RCost w sc sz (.agg (nmC x X kx B j C c0 D d E e)) sts) :
    Calls Tryz.prog 25 #[.agg (nmC x X kx B j C c0 D d E e), sts] w (IntsF w (bestP sc sz x.scan.length)) := by
  obtain ⟨W0, hW0⟩ : ∃ W0, W0 = w.alloc (.cells (nmC x X kx B j C c0 D d E e) 39) := ⟨_, rfl⟩
  have HG0 : Hid (Grew w W0) := Lib.hid (by rw [hW0]; exact (Grew.refl w).alloc _)
  have HX0 : Hid (Blok W0 w.heap.size 39 (nmC x X kx B j C c0 D d E e)) := Lib.hid (by rw [hW0]; exact Blok.new _ _ _ _ rfl)
  have HT : Hid (∀ W, Calls Tryz.prog 67 #[.agg (nmC x X kx B j C c0 D d E e)] W (OwnI W (risI x.scan.length))) := Lib.hid fun W => rtables_any x (by omega) X kx B j C c0 D d E e W
  have HO : Hid (∀ S ks W, Grew W0 W → Row W S (iV (risI x.scan.length)) → Calls Tryz.prog 66 #[.agg (nmC x X kx B j C c0 D d E e), sts, .slice S (risI x.scan.length).length ks] W (Of30F W (bstB sc sz (risI x.scan.length)))) := Lib.hid fun S ks W hW hr => rof30_any sc sz sts x X kx B j C c0 D d E e w hK _ _ rfl (by rw [risI_len]; omega) (risI_nodup _) S ks W (HG0.out.trans hW) hr
  have h6 : decide ((6 : Int) < (x.scan.length : Int)) = false := decide_eq_false (by omega)
  have hfin : bestP sc sz x.scan.length = (bstB sc sz (risI x.scan.length)).1 := rfl
  rw [hfin]
  clear hK hfin
  obtain ⟨x0, m0, m1, m2, m3, m4, m5⟩ := nm6 HX0.out
  generalize bstB sc sz (risI x.scan.length) = r at *
  obtain ⟨r1, r2⟩ := r
  generalize risI x.scan.length = rl at *
  unfold nmC at HT HO hW0 ⊢
  unfold Of30F at HO
  simp only at HO ⊢
  go_enter Tryz.func25, Tryz.ntmps25
  go_upto_region 1 with fail
  rw [← hW0]
  clear hW0
  go_upto_region 3 with fail
  clear x0 m0 m1 m2 m3 m4 m5
  obtain ⟨W1, hW1⟩ : ∃ W1, W1 = W0.drew := ⟨_, rfl⟩
  have hS0 : Grew W0 W1 := by rw [hW1]; exact (Grew.refl W0).drew
  refine wp_region_S (fun W => Grew W0 W) (by kernel_rfl) ?_
  rw [← hW1]
  clear hW1
  refine held_take 0 (v := ?_) rfl (by kernel_rfl) (by kernel_rfl) (by kernel_rfl) (fun _ _ _ h => h) (by rfl) ?_ hS0 ?_
  rotate_left
  · (intro W hW; obtain ⟨x0, m0, m1, m2, m3, m4, m5⟩ := nm6 (HX0.out.grew hW); go_simp; with_reducible rfl)
  refine held_take 1 (v := ?_) rfl (by kernel_rfl) (by kernel_rfl) (by kernel_rfl) (fun _ _ _ h => h) (by rfl) ?_ hS0 ?_
  rotate_left
  · (intro W hW; obtain ⟨x0, m0, m1, m2, m3, m4, m5⟩ := nm6 (HX0.out.grew hW); go_simp; with_reducible rfl)
  refine held_take 2 (v := ?_) rfl (by kernel_rfl) (by kernel_rfl) (by kernel_rfl) (fun _ _ _ h => h) (by rfl) ?_ hS0 ?_
  rotate_left
  · (intro W hW; obtain ⟨x0, m0, m1, m2, m3, m4, m5⟩ := nm6 (HX0.out.grew hW); go_simp; with_reducible rfl)
  refine held_norm (a' := ?_) ?_ ?_
  rotate_left
  · (go_simp; with_reducible rfl)
  refine held_call 3 (by kernel_rfl) rfl (by rfl) (fun K hK => ?_)
  go_simp
  go_wp2_with ((go_at_call 67; (with_reducible refine (HT.out _).mono ?_); rintro en w3 ⟨A3, k3, rfl, hg3, ho3⟩; have hS3 := hS0.trans hg3))
  refine hK.out _ _ hS3 ?_
  clear hK K
  refine held_call 4 (by kernel_rfl) rfl (by rfl) (fun K hK => ?_)
  go_simp
  go_wp2_with ((go_at_call 66; (with_reducible refine (HO.out _ _ _ hS3 (own_rowI ho3)).mono ?_); rintro en w4 ⟨A4, k4, rfl, hg4, hr4⟩; have hS4 := hS3.trans hg4))
  refine hK.out _ _ hS4 ?_
  clear hK K
  refine held_take 5 (v := ?_) rfl (by kernel_rfl) (by kernel_rfl) (by kernel_rfl) (fun _ _ _ h => h) (by rfl) ?_ hS4 ?_
  rotate_left
  · (intro W hW; go_simp; with_reducible rfl)
  refine held_norm (a' := ?_) ?_ ?_
  rotate_left
  · (go_simp; with_reducible rfl)
  refine held_take 6 (v := ?_) rfl (by kernel_rfl) (by kernel_rfl) (by kernel_rfl) (fun _ _ _ h => h) (by rfl) ?_ hS4 ?_
  rotate_left
  · (intro W hW; go_simp; with_reducible rfl)
  refine held_take 7 (v := ?_) rfl (by kernel_rfl) (by kernel_rfl) (by kernel_rfl) (fun _ _ _ h => h) (by rfl) ?_ hS4 ?_
  rotate_left
  · (intro W hW; go_simp; with_reducible rfl)
  refine held_take 8 (v := ?_) rfl (by kernel_rfl) (by kernel_rfl) (by kernel_rfl) (fun _ _ _ h => h) (by rfl) ?_ hS4 ?_
  rotate_left
  · (intro W hW; go_simp; with_reducible rfl)
  refine held_take 9 (v := ?_) rfl (by kernel_rfl) (by kernel_rfl) (by kernel_rfl) (fun _ _ _ h => h) (by rfl) ?_ hS4 ?_
  rotate_left
  · (intro W hW; go_simp; with_reducible rfl)
  refine held_norm (a' := ?_) ?_ ?_
  rotate_left
  · (go_simp; with_reducible rfl)
  refine held_done (by kernel_rfl) ?_
  have HGf := Lib.hid (HG0.out.trans hS4)
  have HRf := Lib.hid hr4
  clear hS0 hS3 hS4 hg3 hg4 ho3 hr4
  go_wp2
  go_ret
  exact ⟨A4, k4, rfl, HGf.out, HRf.out⟩
set_option maxHeartbeats 4000000 in
set_option maxRecDepth 100000 in
/-- Which order is picked, of no more than six tables. -/
theorem pick_any (sc : Int → Int) (sz : List Int → Int) (sts : Value) (x : Nm) (hx : x.scan.length ≤ 6) (X : Option Addr) (kx : Nat) (B : Option Addr) (j : Nat) (C : Option Addr) (c0 : Nat) (D : Option Addr) (d : Nat) (E : Option Addr) (e : Nat) (w : World)
    (hK : KCost w sc sz (.agg (nmC x X kx B j C c0 D d E e)) sts) :
    Calls Tryz.prog 26 #[.agg (nmC x X kx B j C c0 D d E e), sts] w (OwnI w (bestP sc sz x.scan.length)) := by
  obtain ⟨W0, hW0⟩ : ∃ W0, W0 = w.alloc (.cells (nmC x X kx B j C c0 D d E e) 39) := ⟨_, rfl⟩
  have HG0 : Hid (Grew w W0) := Lib.hid (by rw [hW0]; exact (Grew.refl w).alloc _)
  have HX0 : Hid (Blok W0 w.heap.size 39 (nmC x X kx B j C c0 D d E e)) := Lib.hid (by rw [hW0]; exact Blok.new _ _ _ _ rfl)
  have HB : Hid (∀ W, Grew W0 W → Calls Tryz.prog 23 #[.agg (nmC x X kx B j C c0 D d E e), sts] W (OwnI W (bestP sc sz x.scan.length))) := Lib.hid fun W hW => best_any sc sz sts x hx X kx B j C c0 D d E e W (hK.grew (HG0.out.trans hW))
  have h6 : decide ((6 : Int) < (x.scan.length : Int)) = false := decide_eq_false (by omega)
  clear hK
  obtain ⟨x0, m0, m1, m2, m3, m4, m5⟩ := nm6 HX0.out
  generalize bestP sc sz x.scan.length = bp at *
  unfold nmC at HB hW0 ⊢
  go_enter Tryz.func26, Tryz.ntmps26
  go_upto_region 1 with fail
  rw [← hW0]
  clear hW0
  go_wp2_with (go_at_call 23; (with_reducible refine (HB.out _ (Grew.refl _)).mono ?_); rintro en w3 ⟨A3, k3, rfl, hg3, ho3⟩; have HG3 := Lib.hid hg3; have HO3 := Lib.hid ho3; clear hg3 ho3)
  go_ret
  exact ⟨A3, k3, rfl, HG0.out.trans HG3.out, own_le HO3.out HG0.out.size⟩
end Go.Proofs.YtbglmcebkpkccaaGreatDoor

/- Layer 30: the law of the best order. Condition: a query, and what is said of tables, in memory that is there; the turned signs as they are laid. -/
namespace Go.Proofs.YtbglmcebkpkccaaGreatDoor
open Go.RowKit
attribute [local go_sem] more_cell more_frozen more_more more_setCell more_of_drew more_of_drewN lt_more le_more past_cell past_cell2 past_frozen past_frozen2 past_setCell past_setCell2 mid_cell mid_frozen mid_setCell
attribute [local go_sem] fldC0 fldC1 fldS0
attribute [local go_sem ↓] Go.wp_at_zero Go.wp_at_succ

set_option maxHeartbeats 16000000 in
set_option maxRecDepth 100000 in
theorem orderBests_walk (it : List Ex) (sr : List Fr) (wh : Ex) (gr : List Ex) (A : Option Addr) (k : Nat) (B : Option Addr) (j : Nat) (C : Option Addr) (c : Nat) (D : Option Addr) (d : Nat) (l : List Sst) (L : Option Addr) (kl : Nat) (w : World) (hl : LrgSd l)
    (rA : ExsR (PRow w) A it) (rB : FrsR (PRow w) B sr) (rC : ExsR (PRow w) C wh.l) (rD : ExsR (PRow w) D gr) (ra : SstsR (PRow w) L l) (htab : Lib.TabIs Tryz.prog w "trommel/cost.turned" .i64 [0, 1, 2, 5, 6, 3, 4]) :
    Gives Tryz.prog 5 #[.agg (qyC it sr wh gr A k B j C c D d), .slice L l.length kl] w (.bool true) := by
  have ht := turn_of htab
  have HMq : Hid (∀ W, Grew w W → Calls Tryz.prog 7 #[.agg (qyC it sr wh gr A k B j C c D d)] W (MuchR W (goodQ ⟨it, sr, wh, gr⟩))) := Lib.hid fun W hW => muchq_any it sr wh gr A k B j C c D d W (rA.grew hW) (rB.grew hW) (rC.grew hW) (rD.grew hW)
  have HM2 : Hid (∀ W, Grew w W → Calls Tryz.prog 8 #[.slice L l.length kl] W (MuchR W (l.length ≤ 16 ∧ FewSd l))) := Lib.hid fun W hW => rmuch29s_any l hl L kl W (ra.grew hW)
  have hlit : FewSd l → LitSd l := fun h s hs => ⟨by have := (h s hs).1; omega, fun c hc => by have := (h s hs).2 c hc; omega⟩
  have HLv : Hid (∀ W, Grew w W → Gives Tryz.prog 18 #[] W (.bool true)) := Lib.hid fun W hW => live30_any W (ht.grew hW)
  have HAll : Hid (goodQ ⟨it, sr, wh, gr⟩ → l.length ≤ 16 ∧ FewSd l → FewX (normX sr wh) ∧ (∀ W, Grew w W → Calls Tryz.prog 10 #[.agg (qyC it sr wh gr A k B j C c D d)] W (NormF W (normX sr wh))) ∧
      (∀ (x : Nm), FewX x → ∀ X kx B j C c D d E e W, Grew w W → XllR (PRow W) X x.scan → EdsR (PRow W) B x.edges →
        KCost W (scanK (heldAll l) x.scan) (sizeK (heldAll l) x.scan x.edges) (.agg (nmC x X kx B j C c D d E e)) (.slice L l.length kl) ∧ RCost W (scanK (heldAll l) x.scan) (sizeK (heldAll l) x.scan x.edges) (.agg (nmC x X kx B j C c D d E e)) (.slice L l.length kl))) := Lib.hid fun hg hm =>
    ⟨fewX_of hg.src hg.on hg.wh, fun W hW => nrof_any it sr wh gr A k B j C c D d W (Nat.le_trans hg.src (by decide)) hg.on hg.wh (rB.grew hW) (rC.grew hW), fun x hx X kx B j C c D d E e W hW rX rE =>
      ⟨kcost_of l (by have := hm.1; omega) (hlit hm.2) x hx.scan (by have := hx.tabs; omega) hx.edges L kl X kx B j C c D d E e W (ra.grew hW) (ht.grew hW) rX rE, rcost_of l (hlit hm.2) x hx.scan (by have := hx.tabs; omega) hx.edges L kl X kx B j C c D d E e W (ra.grew hW) rX rE⟩⟩
  obtain ⟨W0, hW0⟩ : ∃ W0, W0 = w.alloc (.cells (qyC it sr wh gr A k B j C c D d) 29) := ⟨_, rfl⟩
  have HG0 : Hid (Grew w W0) := Lib.hid (by rw [hW0]; exact (Grew.refl w).alloc _)
  have HB0 : Hid (Blok W0 w.heap.size 29 (qyC it sr wh gr A k B j C c D d)) := Lib.hid (by rw [hW0]; exact Blok.new _ _ _ _ rfl)
  obtain ⟨xl, x0, x1, x2, x3, x4, x5, x6, x7, x8, x9, x10, x11⟩ := qy_in HB0.out
  clear rA rB rC rD ra ht htab hl hlit
  unfold qyC at HMq hW0 ⊢
  unfold Gives
  go_enter Tryz.func5, Tryz.ntmps5
  go_upto_region 1 with fail
  rw [← hW0]
  clear hW0
  go_wp2_with fail
  refine (HMq.out _ HG0.out).mono ?_
  rintro e w1 ⟨t1, rfl, hg1, hq1⟩
  have HG1 := Lib.hid (HG0.out.trans hg1)
  have HB1 := Lib.hid (HB0.out.grew hg1)
  clear hg1 HMq xl x0 x1 x2 x3 x4 x5 x6 x7 x8 x9 x10 x11
  cases t1
  rotate_left
  · go_wp2_with (go_at_call 18; (with_reducible refine (HLv.out _ HG1.out).grows.mono ?_); rintro e9 w9 ⟨rfl, hg9⟩; have HG9 := Lib.hid hg9; clear hg9)
    go_ret
    exact ⟨rfl, HG1.out.trans HG9.out⟩
  have hgq : goodQ ⟨it, sr, wh, gr⟩ := hq1 rfl
  clear hq1
  go_wp2_with fail
  refine (HM2.out _ HG1.out).mono ?_
  rintro e w2 ⟨t2, rfl, hg2, hm⟩
  have HG2 := Lib.hid (HG1.out.trans hg2)
  have HB2 := Lib.hid (HB1.out.grew hg2)
  clear hg2 HM2
  cases t2
  rotate_left
  · clear hm
    go_wp2_with (go_at_call 18; (with_reducible refine (HLv.out _ HG2.out).grows.mono ?_); rintro e9 w9 ⟨rfl, hg9⟩; have HG9 := Lib.hid hg9; clear hg9)
    go_ret
    exact ⟨rfl, HG2.out.trans HG9.out⟩
  have hm2 := hm rfl
  clear hm
  obtain ⟨hfx, hof, hkx⟩ := HAll.out hgq hm2
  have HOf := Lib.hid hof
  have HK := Lib.hid (hkx _ hfx)
  have HFx := Lib.hid hfx
  clear HAll hfx hof hkx hgq hm2
  generalize normX sr wh = x at *
  unfold qyC at HOf
  obtain ⟨xl, x0, x1, x2, x3, x4, x5, x6, x7, x8, x9, x10, x11⟩ := qy_in HB2.out
  go_upto_region 4 with (go_at_call 10; (with_reducible refine (HOf.out _ HG2.out).mono ?_); rintro e2 w3 ⟨A1, k1, B1, j1, C1, c1, D1, d1, E1, f1, rfl, hg3, hm3⟩; unfold nmC)
  obtain ⟨W4, hW4⟩ : ∃ W4, W4 = w3.alloc (.cells (nmC x A1 k1 B1 j1 C1 c1 D1 d1 E1 f1) 39) := ⟨_, rfl⟩
  have hg4 : Grew w3 W4 := by rw [hW4]; exact (Grew.refl _).alloc _
  have HX : Hid (Blok W4 w3.heap.size 39 (nmC x A1 k1 B1 j1 C1 c1 D1 d1 E1 f1)) := Lib.hid (by rw [hW4]; exact Blok.new _ _ _ _ rfl)
  have HG4 : Hid (Grew w W4) := Lib.hid (HG2.out.trans (hg3.trans hg4))
  have hkr := HK.out A1 k1 B1 j1 C1 c1 D1 d1 E1 f1 W4 HG4.out (hm3.scan.grew hg4) (hm3.edges.grew hg4)
  have HKx := Lib.hid hkr.1
  have HRx := Lib.hid hkr.2
  unfold nmC at hW4
  rw [← hW4]
  clear hW4 hg3 hm3 hg4 HG2 HB2 HOf HK hkr xl x0 x1 x2 x3 x4 x5 x6 x7 x8 x9 x10 x11
  generalize hgx : w3.heap.size = gx at *
  clear hgx
  have htabs := HFx.out.tabs
  generalize scanK (heldAll l) x.scan = sc at *
  generalize sizeK (heldAll l) x.scan x.edges = sz at *
  obtain ⟨x0, m0, m1, m2, m3, m4, m5⟩ := nm6 HX.out
  by_cases h6 : 4 < x.scan.length
  · have h6' : decide ((4 : Int) < (x.scan.length : Int)) = true := decide_eq_true (by omega)
    go_wp2_with (go_at_call 18; (with_reducible refine (HLv.out _ HG4.out).grows.mono ?_); rintro e9 w9 ⟨rfl, hg9⟩; have HG9 := Lib.hid hg9; clear hg9)
    go_ret
    exact ⟨rfl, HG4.out.trans HG9.out⟩
  have h6' : decide ((4 : Int) < (x.scan.length : Int)) = false := decide_eq_false (by omega)
  have HBr : Hid (rightP x.scan.length (bestP sc sz x.scan.length)) := Lib.hid (bestP_right sc sz _)
  have hbl : (bestP sc sz x.scan.length).length = x.scan.length := HBr.out.2
  have HR2 : Hid (∀ S' ks' W, Row W S' (iV (bestP sc sz x.scan.length)) → Gives Tryz.prog 20 #[.agg (nmC x A1 k1 B1 j1 C1 c1 D1 d1 E1 f1), .slice S' (bestP sc sz x.scan.length).length ks'] W (.bool true)) := Lib.hid fun S' ks' W hr => by have h := rright_any x (by omega) _ (by omega) S' ks' A1 k1 B1 j1 C1 c1 D1 d1 E1 f1 W hr; rwa [decide_eq_true HBr.out] at h
  have HBe : Hid (∀ W, Grew W4 W → Calls Tryz.prog 23 #[.agg (nmC x A1 k1 B1 j1 C1 c1 D1 d1 E1 f1), .slice L l.length kl] W (OwnI W (bestP sc sz x.scan.length))) := Lib.hid fun W hW => best_any sc sz _ x (by omega) A1 k1 B1 j1 C1 c1 D1 d1 E1 f1 W (HKx.out.grew hW)
  have HPi : Hid (∀ W, Grew W4 W → Calls Tryz.prog 26 #[.agg (nmC x A1 k1 B1 j1 C1 c1 D1 d1 E1 f1), .slice L l.length kl] W (OwnI W (bestP sc sz x.scan.length))) := Lib.hid fun W hW => pick_any sc sz _ x (by omega) A1 k1 B1 j1 C1 c1 D1 d1 E1 f1 W (HKx.out.grew hW)
  have HRb : Hid (∀ W, Grew W4 W → Calls Tryz.prog 25 #[.agg (nmC x A1 k1 B1 j1 C1 c1 D1 d1 E1 f1), .slice L l.length kl] W (IntsF W (bestP sc sz x.scan.length))) := Lib.hid fun W hW => rbest_any sc sz _ x (by omega) A1 k1 B1 j1 C1 c1 D1 d1 E1 f1 W (HRx.out.grew hW)
  have HSm : Hid (∀ A B c d W, Row W A (iV (bestP sc sz x.scan.length)) → Row W B (iV (bestP sc sz x.scan.length)) → Gives Tryz.prog 24 #[.slice A (bestP sc sz x.scan.length).length c, .slice B (bestP sc sz x.scan.length).length d] W (.bool true)) := Lib.hid fun A B c d W h1 h2 => by
    have h := samelist_any _ _ A B c d W h1 h2 (by omega) (by omega)
    rwa [decide_eq_true rfl] at h
  clear HKx HRx HFx HBr hbl
  generalize bestP sc sz x.scan.length = bp at *
  unfold nmC at HR2 HBe HPi HRb
  go_upto_region 7 with (go_at_call 23; (with_reducible refine (HBe.out _ (Grew.refl _)).mono ?_); rintro e5 w5 ⟨A5, k5, rfl, hg5, ho5⟩; have HG5 := Lib.hid hg5; have HR5 := Lib.hid (own_rowI ho5); clear hg5 ho5)
  clear x0 m0 m1 m2 m3 m4 m5
  obtain ⟨x0, m0, m1, m2, m3, m4, m5⟩ := nm6 (HX.out.grew HG5.out)
  go_wp2_with (first | (go_at_call 25; (with_reducible refine (HRb.out _ HG5.out).mono ?_); rintro e6 w6 ⟨A6, k6, rfl, hg6, hr6⟩; have HG6 := Lib.hid (HG5.out.trans hg6); have HR56 := Lib.hid (HR5.out.grew hg6); have HR6 := Lib.hid hr6; clear hg6 hr6) | (go_at_call 24; (with_reducible refine (HSm.out _ _ _ _ _ HR56.out HR6.out).grows.mono ?_); rintro e7 w7 ⟨rfl, hg7⟩; have HG7 := Lib.hid (HG6.out.trans hg7); have HR57 := Lib.hid (HR56.out.grew hg7); clear hg7 HR6; clear x0 m0 m1 m2 m3 m4 m5; obtain ⟨x0, m0, m1, m2, m3, m4, m5⟩ := nm6 (HX.out.grew HG7.out)) | (go_at_call 26; (with_reducible refine (HPi.out _ HG7.out).mono ?_); rintro e8 w8 ⟨A8, k8, rfl, hg8, ho8⟩; have HG8 := Lib.hid (HG7.out.trans hg8); have HR58 := Lib.hid (HR57.out.grew hg8); have HR8 := Lib.hid (own_rowI ho8); clear hg8 ho8) | (go_at_call 24; (with_reducible refine (HSm.out _ _ _ _ _ HR8.out HR58.out).grows.mono ?_); rintro e9 w9 ⟨rfl, hg9⟩; have HG9 := Lib.hid (HG8.out.trans hg9); have HR59 := Lib.hid (HR58.out.grew hg9); clear hg9; clear x0 m0 m1 m2 m3 m4 m5; obtain ⟨x0, m0, m1, m2, m3, m4, m5⟩ := nm6 (HX.out.grew HG9.out)) | (go_at_call 20; (with_reducible refine (HR2.out _ _ _ HR59.out).grows.mono ?_); rintro ea wa ⟨rfl, hga⟩; have HGa := Lib.hid (HG9.out.trans hga); clear hga) | (go_at_call 18; (with_reducible refine (HLv.out _ (HG4.out.trans HGa.out)).grows.mono ?_); rintro eb wb ⟨rfl, hgb⟩; have HGb := Lib.hid (HGa.out.trans hgb); clear hgb))
  go_ret
  exact ⟨rfl, HG4.out.trans HGb.out⟩
end Go.Proofs.YtbglmcebkpkccaaGreatDoor

namespace Go.Proofs.YtbglmcebkpkccaaGreatDoor.orderBests
open Go.RowKit Go.ChangeShapes Go.WideShapes Go.ChangeAt Go.Joins

theorem reads : ∀ t ∈ Tryz.f5.params.toList, Tryz.prog.readableRec t = true ∧ t < Tryz.prog.types.size := by
  rw [Tryz.params5]
  intro t ht
  simp only [List.mem_cons, List.not_mem_nil, or_false] at ht
  rcases ht with rfl | rfl
  all_goals exact ⟨by kernel_rfl, of_decide_eq_true (by kernel_rfl)⟩

/-- The door's own heap meets the condition. -/
theorem door_met (os : Os) (args : Array Value) : laidMetH Tryz.prog Rows.orderBestsRow.laid ((World.doorLaid Tryz.prog 600 os).forCall (fun _ _ => 0) ⟨#[], args, []⟩).memory :=
  laidMetH_of_parts3 (fuel := 8) (laidMet_of_run' 8 (by kernel_rfl) (by kernel_rfl)) (by kernel_rfl) (by kernel_rfl)
/-- What the condition gives a walk: the table. -/
theorem of_laid {W : World} (h : laidMetH Tryz.prog Rows.orderBestsRow.laid W) : Lib.TabIs Tryz.prog W "trommel/cost.turned" .i64 [0, 1, 2, 5, 6, 3, 4] := by
  rw [MakeChecks.laidMetH_plain _ _ _ (by kernel_rfl)] at h
  have h2 : laidMet Tryz.prog (("trommel/cost.turned", Lib.tabData .i64 [0, 1, 2, 5, 6, 3, 4]) :: []) W := h
  exact Lib.tabIs_of_head (g := 3) (t := 157) (e := 3) (n := 7) (by kernel_rfl) (by kernel_rfl) (by kernel_rfl) (by kernel_rfl) (by kernel_rfl) (by kernel_rfl) h2
set_option maxRecDepth 100000 in
theorem lifted (os : Os) (started : os.Started) (H : Type) (enc : TypeId × Value → H) :
    ReturnsInHanded {} Tryz.checked os 5 .any (fun w args => (Rows.orderBestsSpec.pre enc Tryz.prog Tryz.f5 [] false w args ∧ laidMetH Tryz.prog Rows.orderBestsRow.laid w) ∧ sizedMet enc Tryz.prog Tryz.f5 (OpenSpec.ofChange Rows.orderBestsSpec) false w args)
      (Rows.orderBestsSpec.post enc Tryz.prog Tryz.f5 false true false false) := by
  refine returnsInHanded_of_change_and (C := Tryz.checked) (X := fun w _ => laidMetH Tryz.prog Rows.orderBestsRow.laid w) (fun _ _ _ hh h => h.of_heap hh) own started (by kernel_rfl) Tryz.func5
    (ChangeSpec.witness_shaped (enc := enc) (C := Tryz.checked) (os := os) (X := fun w _ => laidMetH Tryz.prog Rows.orderBestsRow.laid w) false (World.doorLaid Tryz.prog 600 os) #[.agg #[.slice none 0 0, .slice none 0 0, .int .i64 0, .string ByteArray.empty, .string ByteArray.empty, .int .i64 0, .int .i64 0, .int .i64 0, .int .i64 0, .string ByteArray.empty, .slice none 0 0, .slice none 0 0], .slice none 0 0] 8 rfl (World.shaped_of_RefB (by kernel_rfl) (by kernel_rfl)) (by kernel_rfl) (by kernel_rfl) (by kernel_rfl) (door_met os _)) ?_
  intro W base args ds gs before hval0 hW hcnd hsz0 hL _
  have hval : ∀ (j : Nat) t v, Tryz.f5.params[j]? = some t → args[j]? = some v → Value.okWide Tryz.prog W .any base t v := hval0
  have hW' := hW
  obtain ⟨p, q, hA0, hV, hpq, hfz, hnd⟩ := hW
  have hA : DataW.TrodAll enc Tryz.prog W 0 (fun _ => true) true Tryz.f5.params.toList args.toList ds p := hA0
  rw [Tryz.params5] at hA hval
  obtain ⟨v0, vs0, d0, ds0, p0, q0, hargs, rfl, rfl, h0, r0⟩ := trodAll_cons hA
  obtain ⟨v1, vs1, d1, ds1, p1, q1, rfl, rfl, rfl, h1, r1⟩ := trodAll_cons r0
  obtain ⟨rfl, rfl, rfl⟩ := trodAll_nil r1
  obtain rfl : args = #[v0, v1] := by cases args; simp_all
  obtain ⟨rfl, rfl⟩ := trodVars_none hV
  have hz : (DataW.weightsEach Tryz.prog [29, 30] [d0, d1]).all (· ≤ reachBytes) = true := hsz0
  simp only [DataW.weightsEach, List.all_append, List.append_nil, Bool.and_eq_true] at hz
  obtain ⟨zz0, zz1⟩ := hz
  obtain ⟨qcs, q, rfl, zq, qA, qk, qB, qj, qC, qc, qD, qd, eq, rq1, rq2, rq3, rq4⟩ := rd_arg Tryz.underlying29 rd_query (hval 0 29 v0 rfl rfl) h0
  obtain rfl : qcs = qyC q.items q.src q.wh q.group qA qk qB qj qC qc qD qd := Array.ext' (by rw [eq]; rfl)
  have o1 := rdw_arg_slice Tryz.underlying30 rdw_ssts (hval 1 30 v1 rfl rfl) h1 zz1
  obtain ⟨s, ⟨sA, sc, es, cs, rs⟩, ks⟩ := o1
  obtain rfl := List.cons.inj es |>.1
  have htab := of_laid hL
  refine (orderBests_walk q.items q.src q.wh q.group qA qk qB qj qC qc qD qd s sA sc W ks rq1 rq2 rq3 rq4 rs htab).mono fun e W' ⟨he, hg⟩ => ?_
  subst he
  exact ⟨_, rfl, law_post hW' rfl rfl Tryz.underlying4 rfl rfl rfl laid_out reads (Grew.below hg)⟩

theorem over : Rows.orderBestsRow.holds Tryz.pinned (OpenSpec.ofChange Rows.orderBestsSpec) :=
  OpenClaim.holds_of_wide 5 Tryz.f5 rfl rfl rfl rfl rfl rfl rfl ⟨rfl, rfl, rfl, rfl, rfl⟩ rfl rfl rfl rfl rfl (by kernel_rfl) Tryz.func5 (by kernel_rfl)
    (of_decide_eq_true (by kernel_rfl)) (by unfold Func.isWrapper; first | (rw [if_pos (by decide +kernel)]; kernel_rfl) | (rw [if_neg (by decide +kernel)]; exact ⟨rfl, rfl⟩))
    (fun os started H enc _ => lifted os started H enc)

theorem proved : Rows.OrderBestsCardSaid :=
  Claim7.holds_tied_plain_at .later [] [.data] true (true, "3803dd5eadb1622ac1cf9f762e3c69a7ba13d79eecce88738eed1112e3ea3d3e") false
    over (fun _ h => by cases h) (by kernel_rfl) (fun _ h => by cases h) orderBests_row_tie rfl ⟨rfl, rfl⟩ (by kernel_rfl) rfl
    (fun f fn hf hfn => by
      obtain rfl : f = 5 := Option.some.inj ((show Tryz.prog.funcNamed "trommel/trommellaw30.OrderBests" = some 5 by kernel_rfl).symm.trans hf) |>.symm
      obtain rfl : fn = Tryz.f5 := (Option.some.inj (Tryz.func5.symm.trans hfn)).symm
      exact ⟨by kernel_rfl, fun j t ht => by
        rw [Tryz.params5] at ht
        have hm : t ∈ [29, 30] := by simpa using Array.mem_of_getElem? ht
        have hall : ([29, 30].all fun u => !Tryz.prog.wantsStandIn u) = true := by kernel_rfl
        exact (show Tryz.prog.wantsStandIn t = false by simpa using List.all_eq_true.1 hall t hm)⟩)
    (by kernel_rfl)

end Go.Proofs.YtbglmcebkpkccaaGreatDoor.orderBests
