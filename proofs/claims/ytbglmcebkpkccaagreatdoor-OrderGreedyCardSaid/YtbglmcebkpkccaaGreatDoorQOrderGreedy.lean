/- The statement OrderGreedySaid: for every input the law returns true, and each argument reads as it did. No condition beyond the row's own. -/
import Derived.Test.YtbglmcebkpkccaaGreatDoorQOa
import Derived.Deep.DeepCutAuto
import Derived.Test.YtbglmcebkpkccaaGreatDoorQKF
import Derived.Lib.OwnBridge
import Derived.WalkMore
import Derived.Test.YtbglmcebkpkccaaGreatDoorQKE
import Derived.Test.YtbglmcebkpkccaaGreatDoorQNc
import Derived.Test.YtbglmcebkpkccaaGreatDoorSame
import Derived.Test.YtbglmcebkpkccaaGreatDoorTab
import Derived.Test.YtbglmcebkpkccaaGreatDoorFrame2
import Derived.Test.YtbglmcebkpkccaaGreatDoorTie
import Derived.Test.YtbglmcebkpkccaaGreatDoorCards
import Derived.ProofKit
import Derived.LaidMore
import Derived.Lib.LaidTab
import Derived.Stop.LaidErr
import Derived.Stop.Joined
import Derived.SevenTiedAt
namespace Go.Proofs.YtbglmcebkpkccaaGreatDoor
open Go.RowKit
attribute [local go_sem] more_cell more_frozen more_more more_setCell more_of_drew more_of_drewN lt_more le_more past_cell past_cell2 past_frozen past_frozen2 past_setCell past_setCell2 mid_cell mid_frozen mid_setCell
attribute [local go_sem] fldC0 fldC1 fldS0
attribute [local go_sem ↓] Go.wp_at_zero Go.wp_at_succ
theorem held_pairO {P : Program} {ops : Array Oper} {Q : Exit → Act → World → Prop} {wc : World} {S : World → Prop} (i j : Nat) {o o' : Oper} {fuel : Nat} {listed : Array Bool} {a : Act} (hr : Region.ready .any ops listed = [i, j]) (ho : ops[i]? = some o) (ho' : ops[j]? = some o') (hw : Region.wanted o (yielded ops a.tmps) = true) (hw' : Region.wanted o' (yielded ops a.tmps) = true)
    (h : ∀ K' : Act → World → Prop, Hid (∀ a W, S W → wpAnyH P .any ops Q S fuel (listed.setIfInBounds i true) a W → K' a W) → Oper.wp P o a wc K' Q)
    (h' : ∀ K' : Act → World → Prop, Hid (∀ a W, S W → wpAnyH P .any ops Q S fuel (listed.setIfInBounds j true) a W → K' a W) → Oper.wp P o' a wc K' Q) : wpAnyH P .any ops Q S (fuel + 1) listed a wc := by
  refine wpAnyH_ready hr (by simp) (AllReadyH.cons ho (fun K' hK => ?_) (AllReadyH.cons ho' (fun K' hK => ?_) AllReadyH.nil))
  · rw [if_pos hw]
    exact h K' (Lib.hid fun a W hG hW => hK.out a W hG (fun _ => hW))
  · rw [if_pos hw']
    exact h' K' (Lib.hid fun a W hG hW => hK.out a W hG (fun _ => hW))
end Go.Proofs.YtbglmcebkpkccaaGreatDoor
namespace Go.Proofs.YtbglmcebkpkccaaGreatDoor
open Go.RowKit
attribute [local go_sem] more_cell more_frozen more_more more_setCell more_of_drew more_of_drewN lt_more le_more past_cell past_cell2 past_frozen past_frozen2 past_setCell past_setCell2 mid_cell mid_frozen mid_setCell
attribute [local go_sem] fldC0 fldC1 fldS0
attribute [local go_sem ↓] Go.wp_at_zero Go.wp_at_succ
set_option maxHeartbeats 4000000 in
set_option maxRecDepth 100000 in
theorem pick_any (sc : Int → Int) (sz : List Int → Int) (sts : Value) (x : Nm) (hx : x.scan.length ≤ 6) (X : Option Addr) (kx : Nat) (B : Option Addr) (j : Nat) (C : Option Addr) (c0 : Nat) (D : Option Addr) (d : Nat) (E : Option Addr) (e : Nat) (w : World)
    (hK : KCost w sc sz (.agg (nmC x X kx B j C c0 D d E e)) sts) :
    Calls Tryz.prog 26 #[.agg (nmC x X kx B j C c0 D d E e), sts] w (OwnI w (bestP sc sz x.scan.length)) := by
  obtain ⟨W0, hW0⟩ : ∃ W0, W0 = w.alloc (.cells (nmC x X kx B j C c0 D d E e) 39) := ⟨_, rfl⟩
  have HG0 : Hid (Grew w W0) := Lib.hid (by rw [hW0]; exact (Grew.refl w).alloc _)
  have HX0 : Hid (Blok W0 w.heap.size 39 (nmC x X kx B j C c0 D d E e)) := Lib.hid (by rw [hW0]; exact Blok.new _ _ _ _ rfl)
  have HB : Hid (∀ W, Grew W0 W → Calls Tryz.prog 23 #[.agg (nmC x X kx B j C c0 D d E e), sts] W (OwnI W (bestP sc sz x.scan.length))) := Lib.hid fun W hW => best_any sc sz sts x hx X kx B j C c0 D d E e W (hK.grew (HG0.out.trans hW))
  have h6 : decide ((6 : Int) < (x.scan.length : Int)) = false := decide_eq_false (by omega)
  clear hK
  obtain ⟨x0, m0, m1, m2, m3, m4, m5⟩ := nm6 HX0.out
  generalize bestP sc sz x.scan.length = bp at *
  unfold nmC at HB hW0 ⊢
  go_enter Tryz.func26, Tryz.ntmps26
  go_upto_region 1 with fail
  rw [← hW0]
  clear hW0
  go_wp2_with (go_at_call 23; (with_reducible refine (HB.out _ (Grew.refl _)).mono ?_); rintro en w3 ⟨A3, k3, rfl, hg3, ho3⟩; have HG3 := Lib.hid hg3; have HO3 := Lib.hid ho3; clear hg3 ho3)
  go_ret
  exact ⟨A3, k3, rfl, HG0.out.trans HG3.out, own_le HO3.out HG0.out.size⟩
end Go.Proofs.YtbglmcebkpkccaaGreatDoor
namespace Go.Proofs.YtbglmcebkpkccaaGreatDoor
open Go.RowKit
attribute [local go_sem] more_cell more_frozen more_more more_setCell more_of_drew more_of_drewN lt_more le_more past_cell past_cell2 past_frozen past_frozen2 past_setCell past_setCell2 mid_cell mid_frozen mid_setCell
attribute [local go_sem] fldC0 fldC1 fldS0
attribute [local go_sem ↓] Go.wp_at_zero Go.wp_at_succ
set_option maxHeartbeats 4000000 in
set_option maxRecDepth 100000 in
theorem after_any (sc : Int → Int) (sz : List Int → Int) (sts : Value) (out : List Int) (t : Int) (hl : out.length ≤ 900) (S : Option Addr) (ks : Nat) (x : Nm) (X : Option Addr) (kx : Nat) (B : Option Addr) (j : Nat) (C : Option Addr) (c0 : Nat) (D : Option Addr) (d : Nat) (E : Option Addr) (e : Nat) (w : World) (rs : Row w S (iV out))
    (hK : KCost w sc sz (.agg (nmC x X kx B j C c0 D d E e)) sts) :
    Gives Tryz.prog 68 #[.agg (nmC x X kx B j C c0 D d E e), sts, .slice S out.length ks, .int .i64 t] w (.int .i64 (gKey sc sz out t)) := by
  obtain ⟨W0, hW0⟩ : ∃ W0, W0 = w.alloc (.cells (nmC x X kx B j C c0 D d E e) 39) := ⟨_, rfl⟩
  have HG0 : Hid (Grew w W0) := Lib.hid (by rw [hW0]; exact (Grew.refl w).alloc _)
  have HX0 : Hid (Blok W0 w.heap.size 39 (nmC x X kx B j C c0 D d E e)) := Lib.hid (by rw [hW0]; exact Blok.new _ _ _ _ rfl)
  have HK := Lib.hid (hK.grew HG0.out)
  have HRs := Lib.hid (rs.grew HG0.out)
  clear hK rs
  obtain ⟨x0, m0, m1, m2, m3, m4, m5⟩ := nm6 HX0.out
  unfold nmC at hW0 HK ⊢
  by_cases h0 : out = []
  · subst h0
    have HSc : Hid (∀ W, Grew W0 W → Gives Tryz.prog 11 #[.agg #[.int .i64 x.core, .slice X x.scan.length kx, .slice B x.edges.length j, .slice C x.rest.length c0, .slice D x.late.length d, .slice E x.wh.length e], sts, .int .i64 t] W (.int .i64 (sc t))) := Lib.hid fun W hW => HK.out.scan t W hW
    have hs := HK.out.hs t
    unfold sI at hs
    have hn : IntKind.i64.wrap (-(sc t)) = -(sc t) := IntWalk.i64_in _ (by omega)
    rw [show gKey sc sz [] t = -(sc t) from by unfold gKey; rw [if_pos rfl]]
    generalize sc t = st at *
    unfold Gives
    go_enter Tryz.func68, Tryz.ntmps68
    go_upto_region 1 with fail
    rw [← hW0]
    clear hW0
    go_wp2_with (go_at_call 11; (with_reducible refine (HSc.out _ (Grew.refl _)).grows.mono ?_); rintro en w3 ⟨rfl, hg3⟩; have HG3 := Lib.hid hg3; clear hg3)
    go_ret
    exact ⟨rfl, HG0.out.trans HG3.out⟩
  · have hlen : out.length ≠ 0 := fun h => h0 (List.eq_nil_of_length_eq_zero h)
    have e0 : ((out.length : Int) == 0) = false := by simp; omega
    have HSz : Hid (∀ S k W, Grew W0 W → Row W S (iV (out ++ [t])) → Gives Tryz.prog 16 #[.agg #[.int .i64 x.core, .slice X x.scan.length kx, .slice B x.edges.length j, .slice C x.rest.length c0, .slice D x.late.length d, .slice E x.wh.length e], sts, .slice S (out.length + 1) k] W (.int .i64 (sz (out ++ [t])))) := Lib.hid fun S k W hW hr => by
      have h := HK.out.size (out ++ [t]) S k W (by rw [List.length_append]; simp only [List.length_singleton]; omega) hW hr
      rwa [List.length_append] at h
    have HCl : Hid (∀ W, Grew W0 W → Calls Tryz.prog 49 #[.slice S out.length ks] W (OwnI W out)) := Lib.hid fun W hW => clone_ints out (by omega) S ks W (HRs.out.grew hW)
    have HN : Hid (iV (out ++ [t]) = iV out ++ [.int .i64 t]) := Lib.hid (by simp [iV])
    rw [show gKey sc sz out t = sz (out ++ [t]) from by unfold gKey; rw [if_neg h0]]
    clear h0 HK
    generalize sz (out ++ [t]) = fin at *
    unfold Gives
    go_enter Tryz.func68, Tryz.ntmps68
    go_upto_region 1 with fail
    rw [← hW0]
    clear hW0
    go_upto_region 3 with fail
    clear x0 m0 m1 m2 m3 m4 m5
    go_cut [8] (fun v wx => v = .int .i64 fin ∧ Grew W0 wx)
    case first =>
      obtain ⟨W1, hW1⟩ : ∃ W1, W1 = W0.drew := ⟨_, rfl⟩
      have hS0 : Grew W0 W1 := by rw [hW1]; exact (Grew.refl W0).drew
      refine wp_region_S (fun W => Grew W0 W) (by kernel_rfl) ?_
      rw [← hW1]
      clear hW1
      refine held_take 0 (v := ?_) rfl (by kernel_rfl) (by kernel_rfl) (by kernel_rfl) (fun _ _ _ h => h) (by rfl) ?_ hS0 ?_; rotate_left; · (intro W hW; obtain ⟨x0, m0, m1, m2, m3, m4, m5⟩ := nm6 (HX0.out.grew hW); go_simp; with_reducible rfl)
      refine held_take 1 (v := ?_) rfl (by kernel_rfl) (by kernel_rfl) (by kernel_rfl) (fun _ _ _ h => h) (by rfl) ?_ hS0 ?_; rotate_left; · (intro W hW; obtain ⟨x0, m0, m1, m2, m3, m4, m5⟩ := nm6 (HX0.out.grew hW); go_simp; with_reducible rfl)
      refine held_take 2 (v := ?_) rfl (by kernel_rfl) (by kernel_rfl) (by kernel_rfl) (fun _ _ _ h => h) (by rfl) ?_ hS0 ?_; rotate_left; · (intro W hW; obtain ⟨x0, m0, m1, m2, m3, m4, m5⟩ := nm6 (HX0.out.grew hW); go_simp; with_reducible rfl)
      refine held_take 4 (v := ?_) rfl (by kernel_rfl) (by kernel_rfl) (by kernel_rfl) (fun _ _ _ h => h) (by rfl) ?_ hS0 ?_; rotate_left; · (intro W hW; obtain ⟨x0, m0, m1, m2, m3, m4, m5⟩ := nm6 (HX0.out.grew hW); go_simp; with_reducible rfl)
      refine held_norm (a' := ?_) ?_ ?_; rotate_left; · (go_simp; with_reducible rfl)
      refine held_pairO 3 5 (by kernel_rfl) rfl rfl (by rfl) (by rfl) (fun K hK => ?_) (fun K hK => ?_)
      · go_simp
        go_wp2_with (go_at_call 49; (with_reducible refine (HCl.out _ hS0).mono ?_); rintro en w3 ⟨A3, k3, rfl, hg3, ho3⟩; have hS3 := hS0.trans hg3; have ho3' := own_le ho3 hS0.size)
        refine hK.out _ _ hS3 ?_
        clear hK K
        refine held_call 5 (by kernel_rfl) rfl (by rfl) (fun K hK => ?_)
        go_simp
        go_wp2_with fail
        refine hK.out _ _ (hS3.alloc _) ?_
        clear hK K
        refine held_call 6 (by kernel_rfl) rfl (by rfl) (fun K hK => ?_)
        refine wp_appB (.tmp 20) (.tmp 22) 31 3 1 rfl W0.heap.size (.int .i64 0) 8 Tryz.underlying31 infoI rfl (by decide) (by decide) _ out.length (iV out) rfl (own_alloc ho3' (.cells #[.int .i64 t] 3)) _ 1 1 [.int .i64 t] rfl rfl (row_one _ _ _ _ rfl) (by simp [Value.oneCell']) (by omega) (by rw [World.size_alloc]; have := hS3.size; omega) ?_
        intro A4 c4 w4 ho4 hb4
        have hS4 : Grew W0 w4 := (hS3.alloc (.cells #[.int .i64 t] 3)).grown hb4 (own_base ho3')
        refine hK.out _ _ hS4 ?_
        clear hK K
        have hr4 : Row w4 A4 (iV (out ++ [t])) := by rw [HN.out] at *; obtain ⟨A', c', e', h'⟩ := own_row ho4; injection e' with e' _ _; subst e'; exact h'
        refine held_call 7 (by kernel_rfl) rfl (by rfl) (fun K hK => ?_)
        go_simp
        go_wp2_with ((go_at_call 16; (with_reducible refine (HSz.out _ _ _ hS4 hr4).grows.mono ?_); rintro en w5 ⟨rfl, hg5⟩; have hS5 := hS4.trans hg5))
        refine hK.out _ _ hS5 ?_
        clear hK K
        refine held_take 8 (v := ?_) rfl (by kernel_rfl) (by kernel_rfl) (by kernel_rfl) (fun _ _ _ h => h) (by rfl) ?_ hS5 ?_; rotate_left; · (intro W hW; go_simp; with_reducible rfl)
        refine held_norm (a' := ?_) ?_ ?_; rotate_left; · (go_simp; with_reducible rfl)
        refine held_done (by kernel_rfl) ?_
        go_wp2_with fail
        go_meet
        exact ⟨rfl, hS5⟩
      · go_simp
        go_wp2_with fail
        refine hK.out _ _ (hS0.alloc _) ?_
        clear hK K
        obtain ⟨Wb, hWb⟩ : ∃ Wb, Wb = W1.alloc (.cells #[.int .i64 t] 3) := ⟨_, rfl⟩
        obtain ⟨bb, hbb⟩ : ∃ bb, bb = W1.heap.size := ⟨_, rfl⟩
        have hSb : Grew W0 Wb := by rw [hWb]; exact hS0.alloc _
        have hBb : Blok Wb bb 3 #[.int .i64 t] := by rw [hWb]; exact Blok.new _ _ _ _ hbb
        rw [← hWb, ← hbb]
        clear hWb hbb
        refine held_call 3 (by kernel_rfl) rfl (by rfl) (fun K hK => ?_)
        go_simp
        go_wp2_with (go_at_call 49; (with_reducible refine (HCl.out _ hSb).mono ?_); rintro en w3 ⟨A3, k3, rfl, hg3, ho3⟩; have hS3 := hSb.trans hg3; have ho3' := own_le ho3 hSb.size; have hB3 := hBb.grew hg3)
        refine hK.out _ _ hS3 ?_
        clear hK K
        refine held_call 6 (by kernel_rfl) rfl (by rfl) (fun K hK => ?_)
        refine wp_appB (.tmp 20) (.tmp 22) 31 3 1 rfl W0.heap.size (.int .i64 0) 8 Tryz.underlying31 infoI rfl (by decide) (by decide) _ out.length (iV out) rfl ho3' _ 1 1 [.int .i64 t] rfl rfl (row_blokO hB3) (by simp [Value.oneCell']) (by omega) (by have := hS3.size; omega) ?_
        intro A4 c4 w4 ho4 hb4
        have hS4 : Grew W0 w4 := hS3.grown hb4 (own_base ho3')
        refine hK.out _ _ hS4 ?_
        clear hK K
        have hr4 : Row w4 A4 (iV (out ++ [t])) := by rw [HN.out] at *; obtain ⟨A', c', e', h'⟩ := own_row ho4; injection e' with e' _ _; subst e'; exact h'
        refine held_call 7 (by kernel_rfl) rfl (by rfl) (fun K hK => ?_)
        go_simp
        go_wp2_with ((go_at_call 16; (with_reducible refine (HSz.out _ _ _ hS4 hr4).grows.mono ?_); rintro en w5 ⟨rfl, hg5⟩; have hS5 := hS4.trans hg5))
        refine hK.out _ _ hS5 ?_
        clear hK K
        refine held_take 8 (v := ?_) rfl (by kernel_rfl) (by kernel_rfl) (by kernel_rfl) (fun _ _ _ h => h) (by rfl) ?_ hS5 ?_; rotate_left; · (intro W hW; go_simp; with_reducible rfl)
        refine held_norm (a' := ?_) ?_ ?_; rotate_left; · (go_simp; with_reducible rfl)
        refine held_done (by kernel_rfl) ?_
        go_wp2_with fail
        go_meet
        exact ⟨rfl, hS5⟩
    case rest =>
      obtain ⟨rfl, hg⟩ := hcut
      have HG := Lib.hid (HG0.out.trans hg)
      clear hg
      go_wp2
      go_ret
      exact ⟨rfl, HG.out⟩
end Go.Proofs.YtbglmcebkpkccaaGreatDoor
namespace Go.Proofs.YtbglmcebkpkccaaGreatDoor
open Go.RowKit
attribute [local go_sem] more_cell more_frozen more_more more_setCell more_of_drew more_of_drewN lt_more le_more past_cell past_cell2 past_frozen past_frozen2 past_setCell past_setCell2 mid_cell mid_frozen mid_setCell
attribute [local go_sem] fldC0 fldC1 fldS0
attribute [local go_sem ↓] Go.wp_at_zero Go.wp_at_succ
theorem delete_own (l : List Int) (hn : l.Nodup) (hz : l.length ≤ 1000000) (i : Nat) (hi : i < l.length) (A : Option Addr) (c base : Nat) (w : World) (ho : w.ownsRow base 3 1 (.slice A l.length c) l.length (iV l)) :
    Calls Tryz.prog 69 #[.slice A l.length c, .int .i64 i, .int .i64 (i + 1 : Nat)] w fun e w' => e = .returned (.slice A (wout l l[i]).length c) ∧ w'.ownsRow base 3 1 (.slice A (wout l l[i]).length c) (wout l l[i]).length (iV (wout l l[i])) ∧ w.grownBy w' (Value.slice A l.length c).ownBlock := by
  have hw := erase_wout l hn i hi
  have hlen := wout_len hn (List.getElem_mem hi)
  rcases ho.2 with ⟨h1, h2⟩ | ⟨g, cap, cur, h1, hbase, hgb, r1, r2, r3, r4⟩
  · omega
  · injection h1 with h1 _ h1''
    subst h1 h1''
    have hH : Go.Sort.Holds (Value.int .i64) w g 0 l.toArray := holds_of_blockI hgb (by simpa [iV] using r4)
    refine (Tryz.slices_Delete_int g 0 c i (i + 1) l w hH (by omega) (by unfold maxLen at r2; omega) (by omega) (by omega)).mono ?_
    rintro e w' ⟨rfl, q, rfl⟩
    rw [show l.length - (i + 1 - i) = (wout l l[i]).length by omega]
    refine ⟨rfl, ?_, ?_⟩
    · have := Lib.ownsRow_putRow (q := q) (k := (wout l l[i]).length) (ys := l.take i ++ l.drop (i + 1) ++ List.replicate (i + 1 - i) 0) ho (by rw [hw, List.length_append, List.length_replicate]; omega) (by omega)
      rw [hw, List.take_left] at this
      rw [hw]
      exact this
    · have := grownBy_sortedI (w := w) (g := g) (n := q) (os := #[]) (l.take i ++ l.drop (i + 1) ++ List.replicate (i + 1 - i) 0).toArray
      rw [Sort.grow_empty] at this
      exact this
def GyAt (w : World) (sc : Int → Int) (sz : List Int → Int) (n : Nat) (fin : List Int) (vl vo : Value) (wr : World) : Prop := ∃ (k : Nat) (left out : List Int) (Al : Option Addr) (cl : Nat) (Ao : Option Addr) (co : Nat), left.length ≤ k ∧ left.Nodup ∧ out.length + left.length = n ∧ greedB sc sz k out left = fin ∧ vl = .slice Al left.length cl ∧ vo = .slice Ao out.length co ∧ Grew w wr ∧
  wr.ownsRow w.heap.size 3 1 (.slice Al left.length cl) left.length (iV left) ∧ wr.ownsRow w.heap.size 3 1 (.slice Ao out.length co) out.length (iV out) ∧ ∀ q, (Value.slice Al left.length cl).ownBlock = some q → (Value.slice Ao out.length co).ownBlock ≠ some q
def GiAt (w : World) (h : Int → Int) (left : List Int) (va vm i : Value) (wr : World) : Prop := ∃ q : Nat, q ≤ left.length ∧ i = .int .i64 q ∧ va = .int .i64 (minAt h left q) ∧ vm = .int .i64 (h (left.getD (minAt h left q) 0)) ∧ Grew w wr
def lenW : Value → Nat
  | .slice _ n _ => n
  | _ => 0
theorem minAt_le (h : Int → Int) (l : List Int) : ∀ j, minAt h l j ≤ j
  | 0 => Nat.le_refl _
  | j + 1 => by
    have := minAt_le h l j
    rw [minAt]
    split <;> omega
set_option maxHeartbeats 16000000 in
set_option maxRecDepth 100000 in
theorem greedy_any (sc : Int → Int) (sz : List Int → Int) (sts : Value) (x : Nm) (hx : x.scan.length ≤ 900) (X : Option Addr) (kx : Nat) (B : Option Addr) (j : Nat) (C : Option Addr) (c0 : Nat) (D : Option Addr) (d : Nat) (E : Option Addr) (e : Nat) (w : World)
    (hK : KCost w sc sz (.agg (nmC x X kx B j C c0 D d E e)) sts) :
    Calls Tryz.prog 27 #[.agg (nmC x X kx B j C c0 D d E e), sts] w (OwnI w (greedP sc sz x.scan.length)) := by
  obtain ⟨W0, hW0⟩ : ∃ W0, W0 = w.alloc (.cells (nmC x X kx B j C c0 D d E e) 39) := ⟨_, rfl⟩
  have HG0 : Hid (Grew w W0) := Lib.hid (by rw [hW0]; exact (Grew.refl w).alloc _)
  have HX0 : Hid (Blok W0 w.heap.size 39 (nmC x X kx B j C c0 D d E e)) := Lib.hid (by rw [hW0]; exact Blok.new _ _ _ _ rfl)
  have HK := Lib.hid (hK.grew HG0.out)
  clear hK
  have HAf : Hid (∀ (out : List Int) (t : Int) S ks W, out.length ≤ 900 → Grew W0 W → Row W S (iV out) → Gives Tryz.prog 68 #[.agg (nmC x X kx B j C c0 D d E e), sts, .slice S out.length ks, .int .i64 t] W (.int .i64 (gKey sc sz out t))) := Lib.hid fun out t S ks W ho hW hr => after_any sc sz sts out t ho S ks x X kx B j C c0 D d E e W hr (HK.out.grew hW)
  have HRi : Hid (∀ W, Calls Tryz.prog 61 #[.int .i64 x.scan.length] W (OwnI W (risI x.scan.length))) := Lib.hid fun W => lrising_any _ (by omega) W
  obtain ⟨x0, m0, m1, m2, m3, m4, m5⟩ := nm6 HX0.out
  obtain ⟨fin, hfin⟩ : ∃ fin, greedP sc sz x.scan.length = fin := ⟨_, rfl⟩
  rw [hfin]
  have HFin := Lib.hid hfin
  clear hfin HK
  obtain ⟨n, hn⟩ : ∃ n, x.scan.length = n := ⟨_, rfl⟩
  have HN := Lib.hid hn
  rw [hn] at hx HRi m1
  clear hn
  unfold nmC at HAf hW0 ⊢
  rw [HN.out] at HAf hW0 ⊢
  go_enter Tryz.func27, Tryz.ntmps27
  go_upto_region 1 with fail
  rw [← hW0]
  clear hW0
  go_upto_region 2 with (go_at_call 61; (with_reducible refine (HRi.out _).mono ?_); rintro en w1 ⟨A1, k1, rfl, hg1, ho1⟩; have HG1 := Lib.hid hg1; have HO1 := Lib.hid ho1; clear hg1 ho1)
  clear x0 m0 m1 m2 m3 m4 m5 HRi
  go_wp2
  go_loopw [5, 6] (fun vl vo wr => GyAt W0 sc sz n fin vl vo wr) (fun vl _ _ => lenW vl)
  case atStart => exact ⟨n, risI n, [], A1, k1, none, 0, by rw [risI_len]; exact Nat.le_refl _, risI_nodup n, by rw [risI_len]; simp, by have := HFin.out; rw [HN.out] at this; exact this, rfl, rfl, HG1.out, HO1.out, own_none _ _ _ _, fun q _ => by simp [Value.ownBlock]⟩
  case round =>
    obtain ⟨k, left, out, Al, cl, Ao, co, hlk, hnd, hon, hgr, rfl, rfl, hg, hol, hoo, hne⟩ := hrel
    obtain ⟨wo, rfl⟩ : ∃ wo : World, wo = wr := ⟨_, rfl⟩
    have HG := Lib.hid hg
    have HL := Lib.hid hol
    have HO := Lib.hid hoo
    have HNe := Lib.hid hne
    have HND := Lib.hid hnd
    have HGr := Lib.hid hgr
    have HOn := Lib.hid hon
    clear hg hol hoo hne hnd hgr HG1 HO1
    by_cases h0 : 0 < left.length
    · have hol9 : out.length + 1 ≤ 900 := by omega
      have hll9 : left.length ≤ 900 := by omega
      clear hon
      obtain ⟨kk, rfl⟩ : ∃ kk, k = kk + 1 := ⟨k - 1, by omega⟩
      obtain ⟨bl, ol, hAl, hbl, hc0⟩ := rowI_at (own_rowI HL.out) h0
      have HCe : Hid (∀ W, Grew wo W → ∀ q (hq : q < left.length), bl < W.heap.size ∧ W.cell? ⟨bl, ol + q, none⟩ = some (.int .i64 left[q])) := Lib.hid fun W hW q hq => by
        obtain ⟨b', o', he, h2, h3⟩ := rowI_at ((own_rowI HL.out).grew hW) hq
        rw [hAl] at he
        injection he with he
        injection he with e1 e2
        subst e1 e2
        exact ⟨h2, h3⟩
      have HAt : Hid (∀ (t : Int) W, Grew wo W → Gives Tryz.prog 68 #[.agg #[.int .i64 x.core, .slice X n kx, .slice B x.edges.length j, .slice C x.rest.length c0, .slice D x.late.length d, .slice E x.wh.length e], sts, .slice Ao out.length co, .int .i64 t] W (.int .i64 (gKey sc sz out t))) := Lib.hid fun t W hW => HAf.out out t Ao co W (by omega) (HG.out.trans hW) ((own_rowI HO.out).grew hW)
      obtain ⟨key, hkey⟩ : ∃ key, gKey sc sz out = key := ⟨_, rfl⟩
      have HKey := Lib.hid hkey
      rw [hkey] at HAt
      clear hkey hbl hc0
      have HAl := Lib.hid hAl
      subst hAl
      clear HAl
      have hc0 := (HCe.out wo (Grew.refl _) 0 h0).2
      have hbl := (HCe.out wo (Grew.refl _) 0 h0).1
      rw [Nat.add_zero] at hc0
      have HG0c : Hid (key (left[0]) = key (left.getD (minAt key left 0) 0)) := Lib.hid (by rw [minAt, List.getD_eq_getElem?_getD, List.getElem?_eq_getElem h0]; rfl)
      have HA0 : Hid (∀ W, Grew wo W → Gives Tryz.prog 68 #[.agg #[.int .i64 x.core, .slice X n kx, .slice B x.edges.length j, .slice C x.rest.length c0, .slice D x.late.length d, .slice E x.wh.length e], sts, .slice Ao out.length co, .int .i64 (left[0])] W (.int .i64 (key (left.getD (minAt key left 0) 0)))) := Lib.hid fun W hW => by rw [← HG0c.out]; exact HAt.out _ W hW
      have HC0 : Hid (∀ W, Grew wo W → bl < W.heap.size ∧ W.cell? ⟨bl, ol, none⟩ = some (.int .i64 (left[0]))) := Lib.hid fun W hW => by have h := HCe.out W hW 0 h0; rwa [Nat.add_zero] at h
      clear hc0 hbl HG0c
      generalize left[0] = t0 at *
      go_upto_region 5 with fail
      obtain ⟨W1, hW1⟩ : ∃ W1, W1 = wo.drew := ⟨_, rfl⟩
      have hS0 : Grew wo W1 := by rw [hW1]; exact (Grew.refl wo).drew
      refine wp_region_S (fun W => Grew wo W) (by kernel_rfl) ?_
      rw [← hW1]
      clear hW1
      have hl0z : (0 : Int) < (left.length : Int) := by omega
      refine held_take 0 (v := ?_) rfl (by kernel_rfl) (by kernel_rfl) (by kernel_rfl) (fun _ _ _ h => h) (by rfl) ?_ hS0 ?_; rotate_left; · (intro W hW; obtain ⟨x0, m0, m1, m2, m3, m4, m5⟩ := nm6 (HX0.out.grew (HG.out.trans hW)); rw [HN.out] at m1; obtain ⟨hb, hc⟩ := HC0.out W hW; go_simp; with_reducible rfl)
      refine held_take 1 (v := ?_) rfl (by kernel_rfl) (by kernel_rfl) (by kernel_rfl) (fun _ _ _ h => h) (by rfl) ?_ hS0 ?_; rotate_left; · (intro W hW; obtain ⟨x0, m0, m1, m2, m3, m4, m5⟩ := nm6 (HX0.out.grew (HG.out.trans hW)); rw [HN.out] at m1; obtain ⟨hb, hc⟩ := HC0.out W hW; go_simp; with_reducible rfl)
      refine held_take 2 (v := ?_) rfl (by kernel_rfl) (by kernel_rfl) (by kernel_rfl) (fun _ _ _ h => h) (by rfl) ?_ hS0 ?_; rotate_left; · (intro W hW; obtain ⟨x0, m0, m1, m2, m3, m4, m5⟩ := nm6 (HX0.out.grew (HG.out.trans hW)); rw [HN.out] at m1; obtain ⟨hb, hc⟩ := HC0.out W hW; go_simp; with_reducible rfl)
      refine held_take 3 (v := ?_) rfl (by kernel_rfl) (by kernel_rfl) (by kernel_rfl) (fun _ _ _ h => h) (by rfl) ?_ hS0 ?_; rotate_left; · (intro W hW; obtain ⟨x0, m0, m1, m2, m3, m4, m5⟩ := nm6 (HX0.out.grew (HG.out.trans hW)); rw [HN.out] at m1; obtain ⟨hb, hc⟩ := HC0.out W hW; go_simp; with_reducible rfl)
      refine held_take 4 (v := ?_) rfl (by kernel_rfl) (by kernel_rfl) (by kernel_rfl) (fun _ _ _ h => h) (by rfl) ?_ hS0 ?_; rotate_left; · (intro W hW; obtain ⟨x0, m0, m1, m2, m3, m4, m5⟩ := nm6 (HX0.out.grew (HG.out.trans hW)); rw [HN.out] at m1; obtain ⟨hb, hc⟩ := HC0.out W hW; go_simp; with_reducible rfl)
      refine held_take 5 (v := ?_) rfl (by kernel_rfl) (by kernel_rfl) (by kernel_rfl) (fun _ _ _ h => h) (by rfl) ?_ hS0 ?_; rotate_left; · (intro W hW; obtain ⟨x0, m0, m1, m2, m3, m4, m5⟩ := nm6 (HX0.out.grew (HG.out.trans hW)); rw [HN.out] at m1; obtain ⟨hb, hc⟩ := HC0.out W hW; go_simp; with_reducible rfl)
      refine held_norm (a' := ?_) ?_ ?_; rotate_left; · (go_simp; with_reducible rfl)
      refine held_call 6 (by kernel_rfl) rfl (by rfl) (fun K hK => ?_)
      go_simp
      go_wp2_with ((go_at_call 68; (with_reducible refine (HA0.out _ hS0).grows.mono ?_); rintro en w6 ⟨rfl, hg6⟩; have hS6 := hS0.trans hg6))
      refine hK.out _ _ hS6 ?_
      clear hK K
      refine held_take 7 (v := ?_) rfl (by kernel_rfl) (by kernel_rfl) (by kernel_rfl) (fun _ _ _ h => h) (by rfl) ?_ hS6 ?_; rotate_left; · (intro W hW; go_simp; with_reducible rfl)
      refine held_norm (a' := ?_) ?_ ?_; rotate_left; · (go_simp; with_reducible rfl)
      refine held_done (by kernel_rfl) ?_
      have HG6 := Lib.hid hS6
      clear hS0 hS6 hg6 HA0 HC0
      go_wp2
      go_loopw [7, 8, 28] (fun va vm i wx => GiAt wo key left va vm i wx) (fun _ _ i _ => left.length - (intOf i).toNat)
      case atStart => exact ⟨0, Nat.zero_le _, rfl, rfl, rfl, HG6.out⟩
      case round =>
        obtain ⟨q, hq, rfl, rfl, rfl, hgx⟩ := hrel
        have HGx := Lib.hid hgx
        clear hgx HG6
        by_cases hql : q < left.length
        · obtain ⟨hb, hc⟩ := HCe.out _ HGx.out q hql
          have HAq : Hid (∀ W, Grew wo W → Gives Tryz.prog 68 #[.agg #[.int .i64 x.core, .slice X n kx, .slice B x.edges.length j, .slice C x.rest.length c0, .slice D x.late.length d, .slice E x.wh.length e], sts, .slice Ao out.length co, .int .i64 left[q]] W (.int .i64 (key left[q]))) := Lib.hid fun W hW => HAt.out _ W hW
          have hgd : left.getD q 0 = left[q] := by rw [List.getD_eq_getElem?_getD, List.getElem?_eq_getElem hql]; rfl
          have HMs : Hid (minAt key left (q + 1) = if key left[q] < key (left.getD (minAt key left q) 0) then q else minAt key left q) := Lib.hid (by rw [minAt, hgd])
          have HGq : Hid (key (left.getD q 0) = key left[q]) := Lib.hid (by rw [hgd])
          have hml := minAt_le key left q
          clear hgd
          obtain ⟨x0, m0, m1, m2, m3, m4, m5⟩ := nm6 (HX0.out.grew (HG.out.trans HGx.out))
          rw [HN.out] at m1
          generalize hmn : minAt key left q = mn at *
          clear hmn
          generalize hkm : key (left.getD mn 0) = km at *
          have HKm := Lib.hid hkm
          clear hkm
          generalize key left[q] = kq at *
          generalize left[q] = tq at *
          by_cases hlt : kq < km
          · have hlt' : decide (kq < km) = true := decide_eq_true hlt
            have HM1 : Hid (minAt key left (q + 1) = q) := Lib.hid (by rw [HMs.out, if_pos hlt])
            clear hlt HMs
            go_wp2_with (go_at_call 68; (with_reducible refine (HAq.out _ HGx.out).grows.mono ?_); rintro en w7 ⟨rfl, hg7⟩; have HG7 := Lib.hid (HGx.out.trans hg7); clear hg7)
            exact ⟨⟨q + 1, by omega, by go_num, by rw [HM1.out], by rw [HM1.out, HGq.out], HG7.out⟩, by simp only [intOf]; omega⟩
          · have hlt' : decide (kq < km) = false := decide_eq_false hlt
            have HM1 : Hid (minAt key left (q + 1) = mn) := Lib.hid (by rw [HMs.out, if_neg hlt])
            clear hlt HMs
            go_wp2_with (go_at_call 68; (with_reducible refine (HAq.out _ HGx.out).grows.mono ?_); rintro en w7 ⟨rfl, hg7⟩; have HG7 := Lib.hid (HGx.out.trans hg7); clear hg7)
            exact ⟨⟨q + 1, by omega, by go_num, by rw [HM1.out], by rw [HM1.out, HKm.out], HG7.out⟩, by simp only [intOf]; omega⟩
        · obtain rfl : q = left.length := by omega
          have hne0 : left ≠ [] := fun h => by rw [h] at h0; simp at h0
          have hmn := minAt_lt key left left.length (Nat.le_refl _) hne0
          have HGr2 : Hid (greedB sc sz kk (out ++ [left.getD (minAt key left left.length) 0]) (wout left (left.getD (minAt key left left.length) 0)) = fin) := Lib.hid (by
            have h := HGr.out
            rw [greedB, if_neg hne0, HKey.out] at h
            exact h)
          generalize minAt key left left.length = mn at *
          have hgd : left.getD mn 0 = left[mn] := by rw [List.getD_eq_getElem?_getD, List.getElem?_eq_getElem hmn]; rfl
          rw [hgd] at HGr2
          clear hne0 hgd HAt HKey HGr
          obtain ⟨hb, hc⟩ := HCe.out _ HGx.out mn hmn
          have hwl := wout_len HND.out (List.getElem_mem hmn)
          have HDel : Hid (∀ W, W.ownsRow W0.heap.size 3 1 (.slice (some ⟨bl, ol, none⟩) left.length cl) left.length (iV left) → Calls Tryz.prog 69 #[.slice (some ⟨bl, ol, none⟩) left.length cl, .int .i64 mn, .int .i64 ((mn : Int) + 1)] W fun e w' => e = .returned (.slice (some ⟨bl, ol, none⟩) (wout left left[mn]).length cl) ∧ w'.ownsRow W0.heap.size 3 1 (.slice (some ⟨bl, ol, none⟩) (wout left left[mn]).length cl) (wout left left[mn]).length (iV (wout left left[mn])) ∧ W.grownBy w' (Value.slice (some ⟨bl, ol, none⟩) left.length cl).ownBlock) := Lib.hid fun W hW => by
            have h := delete_own left HND.out (by omega) mn hmn (some ⟨bl, ol, none⟩) cl W0.heap.size W hW
            rwa [show ((mn + 1 : Nat) : Int) = (mn : Int) + 1 from by omega] at h
          have hnd2 := wout_nodup HND.out left[mn]
          have HLx := Lib.hid (own_grewE HL.out HGx.out)
          have HOx := Lib.hid (own_grewE HO.out HGx.out)
          have HLl := Lib.hid (own_lt HL.out)
          have HSz := Lib.hid HGx.out.size
          have HGw := Lib.hid (HG.out.trans HGx.out)
          have HNo : Hid (iV (out ++ [left[mn]]) = iV out ++ [.int .i64 left[mn]]) := Lib.hid (by simp [iV])
          have HOn2 := HOn
          clear HL HO HCe HND HOn
          generalize left[mn] = tm at *
          generalize hwt : wout left tm = wl at *
          have HNd2 := Lib.hid hnd2
          have HWl := Lib.hid hwl
          have HLk := Lib.hid hlk
          clear hnd2 hwt hwl hlk
          go_wp2_with (first | (at_builtin; refine wpList_app rfl _ _ 31 3 rfl W0 (.int .i64 0) 8 Tryz.underlying31 infoI rfl (by decide) _ out.length (iV out) rfl (own_alloc HOx.out _) _ 1 1 [.int .i64 tm] rfl rfl (row_one _ _ _ _ rfl) (by simp [Value.oneCell']) (by omega) (HGw.out.alloc _) ?_; intro A8 c8 w8 ho8 _ hg8 hb8 hor8; have HO8 := Lib.hid ho8; have HG8 := Lib.hid hg8; have HB8 := Lib.hid hb8; have HOr := Lib.hid hor8; have HL8 := Lib.hid (own_grown (own_alloc HLx.out (.cells #[.int .i64 tm] 3)) hb8 (fun z hz h => HNe.out z hz h.symm)); clear ho8 hg8 hb8 hor8) | (go_at_call 69; (with_reducible refine (HDel.out _ HL8.out).mono ?_); rintro en w9 ⟨rfl, ho9, hg9⟩; have HL9 := Lib.hid ho9; have HG9 := Lib.hid hg9; clear ho9 hg9))
          have hdis : ∀ z, (Value.slice (some ⟨bl, ol, none⟩) left.length cl).ownBlock = some z → (Value.slice A8 (out.length + 1) c8).ownBlock ≠ some z := fun z hz h => by
            have h1 := HLl.out z hz
            have h2 := HSz.out
            rcases HOr.out with h3 | h3
            · rw [h3] at h
              exact HNe.out z hz h
            · rw [h3] at h
              injection h with h
              rw [World.size_alloc] at h
              omega
          have hO9 : w9.ownsRow W0.heap.size 3 1 (.slice A8 (out.length + 1) c8) (out.length + 1) (iV (out ++ [tm])) := by
            rw [HNo.out]
            exact own_grown HO8.out HG9.out (fun z hz h => hdis z h.symm hz)
          have hwl := HWl.out
          have hlk := HLk.out
          have hon := HOn2.out
          exact ⟨⟨kk, wl, out ++ [tm], some ⟨bl, ol, none⟩, cl, A8, c8, by omega, HNd2.out, by rw [List.length_append]; simp only [List.length_singleton]; omega, HGr2.out, rfl, by rw [List.length_append]; rfl, HG8.out.grown HG9.out (own_base HL8.out), HL9.out, by rw [List.length_append]; exact hO9, fun z hz => by rw [List.length_append]; exact hdis z hz⟩, by simp only [lenW]; omega⟩
    · have hl0 : left = [] := List.eq_nil_of_length_eq_zero (by omega)
      have HFo : Hid (out = fin) := Lib.hid (by rw [← HGr.out, hl0]; cases k <;> simp [greedB])
      have hll : (left.length : Int) = 0 := by rw [hl0]; rfl
      clear hl0
      go_wp2
      go_ret
      rw [← HFo.out]
      exact ⟨Ao, co, rfl, HG0.out.trans HG.out, own_le HO.out HG0.out.size⟩
end Go.Proofs.YtbglmcebkpkccaaGreatDoor
namespace Go.Proofs.YtbglmcebkpkccaaGreatDoor
open Go.RowKit
attribute [local go_sem] more_cell more_frozen more_more more_setCell more_of_drew more_of_drewN lt_more le_more past_cell past_cell2 past_frozen past_frozen2 past_setCell past_setCell2 mid_cell mid_frozen mid_setCell
attribute [local go_sem] fldC0 fldC1 fldS0
attribute [local go_sem ↓] Go.wp_at_zero Go.wp_at_succ
set_option maxHeartbeats 4000000 in
set_option maxRecDepth 100000 in
theorem best_none (sts : Value) (x : Nm) (hx : 6 < x.scan.length) (X : Option Addr) (kx : Nat) (B : Option Addr) (j : Nat) (C : Option Addr) (c0 : Nat) (D : Option Addr) (d : Nat) (E : Option Addr) (e : Nat) (w : World) :
    Gives Tryz.prog 23 #[.agg (nmC x X kx B j C c0 D d E e), sts] w (.slice none 0 0) := by
  obtain ⟨W0, hW0⟩ : ∃ W0, W0 = w.alloc (.cells (nmC x X kx B j C c0 D d E e) 39) := ⟨_, rfl⟩
  have HG0 : Hid (Grew w W0) := Lib.hid (by rw [hW0]; exact (Grew.refl w).alloc _)
  have HX0 : Hid (Blok W0 w.heap.size 39 (nmC x X kx B j C c0 D d E e)) := Lib.hid (by rw [hW0]; exact Blok.new _ _ _ _ rfl)
  obtain ⟨x0, m0, m1, m2, m3, m4, m5⟩ := nm6 HX0.out
  have h6 : decide ((6 : Int) < (x.scan.length : Int)) = true := decide_eq_true (by omega)
  unfold nmC at hW0 ⊢
  unfold Gives
  go_enter Tryz.func23, Tryz.ntmps23
  go_upto_region 1 with fail
  rw [← hW0]
  clear hW0
  go_step3
  go_wp2
  try rw [Exit.noGoto_ret]
  go_ret
  exact ⟨rfl, HG0.out⟩
set_option maxHeartbeats 4000000 in
set_option maxRecDepth 100000 in
theorem pick_many (sc : Int → Int) (sz : List Int → Int) (sts : Value) (x : Nm) (hx : 6 < x.scan.length) (hx2 : x.scan.length ≤ 900) (X : Option Addr) (kx : Nat) (B : Option Addr) (j : Nat) (C : Option Addr) (c0 : Nat) (D : Option Addr) (d : Nat) (E : Option Addr) (e : Nat) (w : World)
    (hK : KCost w sc sz (.agg (nmC x X kx B j C c0 D d E e)) sts) :
    Calls Tryz.prog 26 #[.agg (nmC x X kx B j C c0 D d E e), sts] w (OwnI w (greedP sc sz x.scan.length)) := by
  obtain ⟨W0, hW0⟩ : ∃ W0, W0 = w.alloc (.cells (nmC x X kx B j C c0 D d E e) 39) := ⟨_, rfl⟩
  have HG0 : Hid (Grew w W0) := Lib.hid (by rw [hW0]; exact (Grew.refl w).alloc _)
  have HX0 : Hid (Blok W0 w.heap.size 39 (nmC x X kx B j C c0 D d E e)) := Lib.hid (by rw [hW0]; exact Blok.new _ _ _ _ rfl)
  have HB : Hid (∀ W, Grew W0 W → Calls Tryz.prog 27 #[.agg (nmC x X kx B j C c0 D d E e), sts] W (OwnI W (greedP sc sz x.scan.length))) := Lib.hid fun W hW => greedy_any sc sz sts x hx2 X kx B j C c0 D d E e W (hK.grew (HG0.out.trans hW))
  have h6 : decide ((6 : Int) < (x.scan.length : Int)) = true := decide_eq_true (by omega)
  clear hK
  obtain ⟨x0, m0, m1, m2, m3, m4, m5⟩ := nm6 HX0.out
  generalize greedP sc sz x.scan.length = bp at *
  unfold nmC at HB hW0 ⊢
  go_enter Tryz.func26, Tryz.ntmps26
  go_upto_region 1 with fail
  rw [← hW0]
  clear hW0
  go_wp2_with (go_at_call 27; (with_reducible refine (HB.out _ (Grew.refl _)).mono ?_); rintro en w3 ⟨A3, k3, rfl, hg3, ho3⟩; have HG3 := Lib.hid hg3; have HO3 := Lib.hid ho3; clear hg3 ho3)
  go_ret
  exact ⟨A3, k3, rfl, HG0.out.trans HG3.out, own_le HO3.out HG0.out.size⟩
end Go.Proofs.YtbglmcebkpkccaaGreatDoor
namespace Go.Proofs.YtbglmcebkpkccaaGreatDoor
open Go.RowKit
attribute [local go_sem] more_cell more_frozen more_more more_setCell more_of_drew more_of_drewN lt_more le_more past_cell past_cell2 past_frozen past_frozen2 past_setCell past_setCell2 mid_cell mid_frozen mid_setCell
attribute [local go_sem] fldC0 fldC1 fldS0
attribute [local go_sem ↓] Go.wp_at_zero Go.wp_at_succ
def RgAt (w : World) (h : Int → Int) (left : List Int) (va i : Value) (wr : World) : Prop := ∃ q : Nat, 1 ≤ q ∧ q ≤ left.length ∧ i = .int .i64 q ∧ va = .int .i64 (minAt h left q) ∧ Grew w wr
theorem minAt_one (h : Int → Int) (l : List Int) : minAt h l 1 = 0 := by
  rw [minAt, minAt]
  split <;> rfl
theorem wp_appsO {P : Program} {w : World} {o : Oper} {a : Act} {K : Act → World → Prop} {Q : Exit → Act → World → Prop} (s x : Operand) (t e : TypeId) (size : Nat)
    (ho : o.op = .call { callee := .builtin .append, args := #[s, x], argTypes := #[t, t] })
    (u : World) (z : Value) (bytes : Nat) (ht : P.underlying t = some (.slice e)) (hi : (P.info? e).map (fun i => (i.zero, i.size, i.bytes)) = some (some z, size, bytes)) (hzs : z.cells.size = size) (hsz : 0 < size) (hb8 : bytes ≤ 256)
    (v : Value) (n : Nat) (xs : List Value) (hs : a.eval s = v) (hown : w.ownsRow u.heap.size e size v n xs)
    (A : Option Addr) (m c : Nat) (news : List Value) (hx : a.eval x = .slice A m c) (hl : news.length = m * size) (hr : Row w A news) (h1 : ∀ u ∈ news, u.oneCell' = true)
    (hsm : n + m ≤ 549755813888) (hg : Grew u w)
    (h : ∀ A' c' w', w'.ownsRow u.heap.size e size (.slice A' (n + m) c') (n + m) (xs ++ news) → Row w' A' (xs ++ news) → Grew u w' → w.grownBy w' v.ownBlock → ((Value.slice A' (n + m) c').ownBlock = v.ownBlock ∨ (Value.slice A' (n + m) c').ownBlock = some w.heap.size) → K (a.put o.dst (.slice A' (n + m) c')) w') : o.wp P a w K Q := by
  obtain ⟨i, hi0, hz, hs1, hb⟩ := info_parts hi
  have hbb : (n + m) * bytes ≤ 549755813888 * 256 := Nat.mul_le_mul hsm hb8
  refine wp_append_row w s x t ho u.heap.size e i z size bytes ht hi0 hz hs1 hb hzs hsz v n xs hs hown A m c news hx hl hr h1 (by unfold maxLen; omega) (by omega) hg.size ?_
  intro A' c' w' ho' hr' hgb hor
  exact h A' c' w' ho' hr' (hg.grown hgb (own_base hown)) hgb hor
theorem dis_app {v v' : Value} {w : World} {b : Nat} (h : v'.ownBlock = v.ownBlock ∨ v'.ownBlock = some w.heap.size) (hd : ∀ z, v.ownBlock = some z → z ≠ b) (hb : b < w.heap.size) : ∀ z, v'.ownBlock = some z → z ≠ b := fun z hz => by
  rcases h with h | h
  · exact hd z (h ▸ hz)
  · rw [h] at hz
    injection hz with hz
    omega
theorem dis_app2 {v v' y : Value} {w : World} (h : v'.ownBlock = v.ownBlock ∨ v'.ownBlock = some w.heap.size) (hd : ∀ z, v.ownBlock = some z → y.ownBlock ≠ some z) (hy : ∀ z, y.ownBlock = some z → z < w.heap.size) : ∀ z, v'.ownBlock = some z → y.ownBlock ≠ some z := fun z hz => by
  rcases h with h | h
  · exact hd z (h ▸ hz)
  · rw [h] at hz
    injection hz with hz
    intro he
    have := hy z he
    omega
theorem held_captureO {P : Program} {md : Region.Mode} {ops : Array Oper} {Q : Exit → Act → World → Prop} {S : World → Prop} {fuel : Nat} {listed : Array Bool} {a : Act} {w : World} (h : ∀ OPS A0 Q0, OPS = ops → A0 = a → Q0 = Q → wpAnyH P md OPS Q0 S fuel listed A0 w) : wpAnyH P md ops Q S fuel listed a w := h _ _ _ rfl rfl rfl
theorem held_listO {P : Program} {md : Region.Mode} {ops : Array Oper} {Q : Exit → Act → World → Prop} {S : World → Prop} {fuel : Nat} {listed listed' : Array Bool} {a a' : Act} {w : World} (e : listed = listed') (ea : a = a') (h : wpAnyH P md ops Q S fuel listed' a' w) : wpAnyH P md ops Q S fuel listed a w := by
  subst e ea
  exact h
theorem held_triO {P : Program} {ops : Array Oper} {Q : Exit → Act → World → Prop} {wc : World} {S : World → Prop} (i j k : Nat) {o o' o'' : Oper} {fuel : Nat} {listed : Array Bool} {a : Act} (hr : Region.ready .any ops listed = [i, j, k]) (ho : ops[i]? = some o) (ho' : ops[j]? = some o') (ho'' : ops[k]? = some o'') (hw : Region.wanted o (yielded ops a.tmps) = true) (hw' : Region.wanted o' (yielded ops a.tmps) = true) (hw'' : Region.wanted o'' (yielded ops a.tmps) = true)
    (h : ∀ K' : Act → World → Prop, Hid (∀ a W, S W → wpAnyH P .any ops Q S fuel (listed.setIfInBounds i true) a W → K' a W) → Oper.wp P o a wc K' Q)
    (h' : ∀ K' : Act → World → Prop, Hid (∀ a W, S W → wpAnyH P .any ops Q S fuel (listed.setIfInBounds j true) a W → K' a W) → Oper.wp P o' a wc K' Q)
    (h'' : ∀ K' : Act → World → Prop, Hid (∀ a W, S W → wpAnyH P .any ops Q S fuel (listed.setIfInBounds k true) a W → K' a W) → Oper.wp P o'' a wc K' Q) : wpAnyH P .any ops Q S (fuel + 1) listed a wc := by
  refine wpAnyH_ready hr (by simp) (AllReadyH.cons ho (fun K' hK => ?_) (AllReadyH.cons ho' (fun K' hK => ?_) (AllReadyH.cons ho'' (fun K' hK => ?_) AllReadyH.nil)))
  · rw [if_pos hw]
    exact h K' (Lib.hid fun a W hG hW => hK.out a W hG (fun _ => hW))
  · rw [if_pos hw']
    exact h' K' (Lib.hid fun a W hG hW => hK.out a W hG (fun _ => hW))
  · rw [if_pos hw'']
    exact h'' K' (Lib.hid fun a W hG hW => hK.out a W hG (fun _ => hW))
theorem held_quadO {P : Program} {ops : Array Oper} {Q : Exit → Act → World → Prop} {wc : World} {S : World → Prop} (i j k l : Nat) {o o' o'' o3 : Oper} {fuel : Nat} {listed : Array Bool} {a : Act} (hr : Region.ready .any ops listed = [i, j, k, l]) (ho : ops[i]? = some o) (ho' : ops[j]? = some o') (ho'' : ops[k]? = some o'') (ho3 : ops[l]? = some o3) (hw : Region.wanted o (yielded ops a.tmps) = true) (hw' : Region.wanted o' (yielded ops a.tmps) = true) (hw'' : Region.wanted o'' (yielded ops a.tmps) = true) (hw3 : Region.wanted o3 (yielded ops a.tmps) = true)
    (h : ∀ K' : Act → World → Prop, Hid (∀ a W, S W → wpAnyH P .any ops Q S fuel (listed.setIfInBounds i true) a W → K' a W) → Oper.wp P o a wc K' Q)
    (h' : ∀ K' : Act → World → Prop, Hid (∀ a W, S W → wpAnyH P .any ops Q S fuel (listed.setIfInBounds j true) a W → K' a W) → Oper.wp P o' a wc K' Q)
    (h'' : ∀ K' : Act → World → Prop, Hid (∀ a W, S W → wpAnyH P .any ops Q S fuel (listed.setIfInBounds k true) a W → K' a W) → Oper.wp P o'' a wc K' Q)
    (h3 : ∀ K' : Act → World → Prop, Hid (∀ a W, S W → wpAnyH P .any ops Q S fuel (listed.setIfInBounds l true) a W → K' a W) → Oper.wp P o3 a wc K' Q) : wpAnyH P .any ops Q S (fuel + 1) listed a wc := by
  refine wpAnyH_ready hr (by simp) (AllReadyH.cons ho (fun K' hK => ?_) (AllReadyH.cons ho' (fun K' hK => ?_) (AllReadyH.cons ho'' (fun K' hK => ?_) (AllReadyH.cons ho3 (fun K' hK => ?_) AllReadyH.nil))))
  · rw [if_pos hw]
    exact h K' (Lib.hid fun a W hG hW => hK.out a W hG (fun _ => hW))
  · rw [if_pos hw']
    exact h' K' (Lib.hid fun a W hG hW => hK.out a W hG (fun _ => hW))
  · rw [if_pos hw'']
    exact h'' K' (Lib.hid fun a W hG hW => hK.out a W hG (fun _ => hW))
  · rw [if_pos hw3]
    exact h3 K' (Lib.hid fun a W hG hW => hK.out a W hG (fun _ => hW))
set_option maxHeartbeats 16000000 in
set_option maxRecDepth 100000 in
theorem rgreedy_any (sc : Int → Int) (sz : List Int → Int) (sts : Value) (x : Nm) (hx : x.scan.length ≤ 900) (X : Option Addr) (kx : Nat) (B : Option Addr) (j : Nat) (C : Option Addr) (c0 : Nat) (D : Option Addr) (d : Nat) (E : Option Addr) (e : Nat) (w : World)
    (hK : RCost w sc sz (.agg (nmC x X kx B j C c0 D d E e)) sts) :
    Calls Tryz.prog 28 #[.agg (nmC x X kx B j C c0 D d E e), sts] w (IntsF w (greedP sc sz x.scan.length)) := by
  obtain ⟨W0, hW0⟩ : ∃ W0, W0 = w.alloc (.cells (nmC x X kx B j C c0 D d E e) 39) := ⟨_, rfl⟩
  have HG0 : Hid (Grew w W0) := Lib.hid (by rw [hW0]; exact (Grew.refl w).alloc _)
  have HX0 : Hid (Blok W0 w.heap.size 39 (nmC x X kx B j C c0 D d E e)) := Lib.hid (by rw [hW0]; exact Blok.new _ _ _ _ rfl)
  have HK := Lib.hid (hK.grew HG0.out)
  clear hK
  have HTa : Hid (∀ W, Calls Tryz.prog 67 #[.agg (nmC x X kx B j C c0 D d E e)] W (OwnI W (risI x.scan.length))) := Lib.hid fun W => rtables_any x (by omega) X kx B j C c0 D d E e W
  obtain ⟨x0, m0, m1, m2, m3, m4, m5⟩ := nm6 HX0.out
  obtain ⟨fin, hfin⟩ : ∃ fin, greedP sc sz x.scan.length = fin := ⟨_, rfl⟩
  rw [hfin]
  have HFin := Lib.hid hfin
  clear hfin
  obtain ⟨n, hn⟩ : ∃ n, x.scan.length = n := ⟨_, rfl⟩
  have HN := Lib.hid hn
  rw [hn] at hx HTa m1
  clear hn
  unfold nmC at HTa hW0 HK ⊢
  rw [HN.out] at HTa hW0 HK ⊢
  go_enter Tryz.func28, Tryz.ntmps28
  go_upto_region 1 with fail
  rw [← hW0]
  clear hW0
  go_upto_region 3 with (go_at_call 67; (with_reducible refine (HTa.out _).mono ?_); rintro en w1 ⟨A1, k1, rfl, hg1, ho1⟩; have HG1 := Lib.hid hg1; have HO1 := Lib.hid ho1; clear hg1 ho1)
  clear x0 m0 m1 m2 m3 m4 m5 HTa
  go_loopw [5, 6] (fun vo vl wr => GyAt W0 sc sz n fin vl vo wr) (fun _ vl _ => lenW vl)
  case atStart => exact ⟨n, risI n, [], A1, k1, none, 0, by rw [risI_len]; exact Nat.le_refl _, risI_nodup n, by rw [risI_len]; simp, by have := HFin.out; rw [HN.out] at this; exact this, rfl, rfl, HG1.out, HO1.out, own_none _ _ _ _, fun q _ => by simp [Value.ownBlock]⟩
  case round =>
    obtain ⟨k, left, out, Al, cl, Ao, co, hlk, hnd, hon, hgr, rfl, rfl, hg, hol, hoo, hne⟩ := hrel
    obtain ⟨wo, rfl⟩ : ∃ wo : World, wo = wr := ⟨_, rfl⟩
    have HG := Lib.hid hg
    have HL := Lib.hid hol
    have HO := Lib.hid hoo
    have HNe := Lib.hid hne
    have HND := Lib.hid hnd
    have HGr := Lib.hid hgr
    have HOn := Lib.hid hon
    clear hg hol hoo hne hnd hgr HG1 HO1
    by_cases h0 : 0 < left.length
    rotate_left
    · have hl0 : left = [] := List.eq_nil_of_length_eq_zero (by omega)
      have HFo : Hid (out = fin) := Lib.hid (by rw [← HGr.out, hl0]; cases k <;> simp [greedB])
      have hll : (left.length : Int) = 0 := by rw [hl0]; rfl
      clear hl0
      go_wp2
      go_ret
      rw [← HFo.out]
      exact ⟨Ao, co, rfl, HG0.out.trans HG.out, own_rowI HO.out⟩
    have hol9 : out.length + 1 ≤ 900 := by omega
    have hll9 : left.length ≤ 900 := by omega
    clear hon
    obtain ⟨kk, rfl⟩ : ∃ kk, k = kk + 1 := ⟨k - 1, by omega⟩
    have HLk := Lib.hid hlk
    clear hlk
    obtain ⟨bl, ol, hAl, hbl, hc0⟩ := rowI_at (own_rowI HL.out) h0
    have HCe : Hid (∀ W, Grew wo W → ∀ q (hq : q < left.length), bl < W.heap.size ∧ W.cell? ⟨bl, ol + q, none⟩ = some (.int .i64 left[q])) := Lib.hid fun W hW q hq => by
      obtain ⟨b', o', he, h2, h3⟩ := rowI_at ((own_rowI HL.out).grew hW) hq
      rw [hAl] at he
      injection he with he
      injection he with e1 e2
      subst e1 e2
      exact ⟨h2, h3⟩
    have HRo : Hid (∀ W, Grew wo W → Row W Ao (iV out)) := Lib.hid fun W hW => (own_rowI HO.out).grew hW
    obtain ⟨key, hkey⟩ : ∃ key, gKey sc sz out = key := ⟨_, rfl⟩
    have HKey := Lib.hid hkey
    clear hkey hbl hc0
    subst hAl
    have HSc : Hid (∀ t W, Grew wo W → Gives Tryz.prog 12 #[.agg #[.int .i64 x.core, .slice X n kx, .slice B x.edges.length j, .slice C x.rest.length c0, .slice D x.late.length d, .slice E x.wh.length e], sts, .int .i64 t] W (.int .i64 (sc t))) := Lib.hid fun t W hW => HK.out.scan t W (HG.out.trans hW)
    have HWo : Hid (∀ t W, Grew wo W → Calls Tryz.prog 70 #[.slice (some ⟨bl, ol, none⟩) left.length cl, .int .i64 t] W (OwnI W (wout left t))) := Lib.hid fun t W hW => rwithout_any left t (by omega) _ cl W ((own_rowI HL.out).grew hW)
    have HSz : Hid (∀ t S k W, Grew wo W → Row W S (iV (out ++ [t])) → Gives Tryz.prog 17 #[.agg #[.int .i64 x.core, .slice X n kx, .slice B x.edges.length j, .slice C x.rest.length c0, .slice D x.late.length d, .slice E x.wh.length e], sts, .slice S (out.length + 1) k] W (.int .i64 (sz (out ++ [t])))) := Lib.hid fun t S k W hW hr => by
      have h := HK.out.size (out ++ [t]) S k W (by rw [List.length_append]; simp only [List.length_singleton]; omega) (HG.out.trans hW) hr
      rwa [List.length_append] at h
    go_wp2
    go_loopw [7, 8] (fun va i wx => RgAt wo key left va i wx) (fun _ i _ => left.length - (intOf i).toNat)
    case atStart => exact ⟨1, Nat.le_refl _, h0, rfl, by rw [minAt_one]; rfl, Grew.refl _⟩
    case round =>
      obtain ⟨q, hq1, hq, rfl, rfl, hgx⟩ := hrel
      have HGx := Lib.hid hgx
      clear hgx
      by_cases hql : q < left.length
      · have hgd : left.getD q 0 = left[q] := by rw [List.getD_eq_getElem?_getD, List.getElem?_eq_getElem hql]; rfl
        have hml := minAt_lt key left q (by omega) (fun h => by rw [h] at h0; simp at h0)
        have HMs : Hid (minAt key left (q + 1) = if key left[q] < key left[minAt key left q] then q else minAt key left q) := Lib.hid (by
          have hgm : left.getD (minAt key left q) 0 = left[minAt key left q] := by rw [List.getD_eq_getElem?_getD, List.getElem?_eq_getElem hml]; rfl
          rw [minAt, hgd, hgm])
        clear hgd
        have HCq : Hid (∀ W, Grew wo W → bl < W.heap.size ∧ W.cell? ⟨bl, ol + q, none⟩ = some (.int .i64 left[q])) := Lib.hid fun W hW => HCe.out W hW q hql
        have HCm : Hid (∀ W, Grew wo W → W.cell? ⟨bl, ol + minAt key left q, none⟩ = some (.int .i64 left[minAt key left q])) := Lib.hid fun W hW => (HCe.out W hW _ hml).2
        generalize hmn : minAt key left q = mn at *
        clear hmn
        have HKq : Hid (key left[q] = gKey sc sz out left[q]) := Lib.hid (by rw [HKey.out])
        have HKm : Hid (key left[mn] = gKey sc sz out left[mn]) := Lib.hid (by rw [HKey.out])
        generalize left[q] = tq at *
        generalize left[mn] = tm at *
        rw [HKq.out, HKm.out] at HMs
        clear HKq HKm
        have hmlz : (mn : Int) < (left.length : Int) := by omega
        have hqlz : (q : Int) < (left.length : Int) := by omega
        have hq9 : q + 1 ≤ 900 := by omega
        by_cases hoe : out = []
        · have hl0 : out.length = 0 := by rw [hoe]; rfl
          have e0 : ((out.length : Int) == 0) = true := by rw [hl0]; rfl
          have e0' : decide ((0 : Int) < (out.length : Int)) = false := decide_eq_false (by omega)
          have e0n : decide (0 < out.length) = false := decide_eq_false (by omega)
          clear hl0
          have HMc : Hid (minAt key left (q + 1) = if sc tm < sc tq then q else mn) := Lib.hid (by
            rw [HMs.out]
            unfold gKey
            rw [if_pos hoe, if_pos hoe]
            by_cases h : sc tm < sc tq
            · rw [if_pos h, if_pos (by omega)]
            · rw [if_neg h, if_neg (by omega)])
          have HS1 := Lib.hid (HSc.out tq)
          have HS2 := Lib.hid (HSc.out tm)
          clear HMs hoe
          generalize sc tm = sm at *
          generalize sc tq = sq at *
          go_upto_region 8 with fail
          have hS0 : Grew wo wr.drew := HGx.out.drew
          refine wp_region_S (fun W => Grew wo W) (by kernel_rfl) ?_
          refine held_take 0 (v := ?_) rfl (by kernel_rfl) (by kernel_rfl) (by kernel_rfl) (fun _ _ _ h => h) (by rfl) ?_ hS0 ?_; rotate_left; · (intro W hW; go_simp; with_reducible rfl)
          refine held_take 1 (v := ?_) rfl (by kernel_rfl) (by kernel_rfl) (by kernel_rfl) (fun _ _ _ h => h) (by rfl) ?_ hS0 ?_; rotate_left; · (intro W hW; go_simp; with_reducible rfl)
          refine held_take 2 (v := ?_) rfl (by kernel_rfl) (by kernel_rfl) (by kernel_rfl) (fun _ _ _ h => h) (by rfl) ?_ hS0 ?_; rotate_left; · (intro W hW; go_simp; with_reducible rfl)
          refine held_take 3 (v := ?_) rfl (by kernel_rfl) (by kernel_rfl) (by kernel_rfl) (fun _ _ _ h => h) (by rfl) ?_ hS0 ?_; rotate_left; · (intro W hW; go_simp; with_reducible rfl)
          refine held_norm (a' := ?_) ?_ ?_; rotate_left; · (go_simp; with_reducible rfl)
          refine held_take 4 (v := ?_) rfl (by kernel_rfl) (by kernel_rfl) (by kernel_rfl) (fun _ _ _ h => h) (by rfl) ?_ hS0 ?_; rotate_left; · (intro W hW; obtain ⟨x0, m0, m1, m2, m3, m4, m5⟩ := nm6 (HX0.out.grew (HG.out.trans hW)); rw [HN.out] at m1; go_simp; with_reducible rfl)
          refine held_take 5 (v := ?_) rfl (by kernel_rfl) (by kernel_rfl) (by kernel_rfl) (fun _ _ _ h => h) (by rfl) ?_ hS0 ?_; rotate_left; · (intro W hW; obtain ⟨x0, m0, m1, m2, m3, m4, m5⟩ := nm6 (HX0.out.grew (HG.out.trans hW)); rw [HN.out] at m1; go_simp; with_reducible rfl)
          refine held_take 6 (v := ?_) rfl (by kernel_rfl) (by kernel_rfl) (by kernel_rfl) (fun _ _ _ h => h) (by rfl) ?_ hS0 ?_; rotate_left; · (intro W hW; obtain ⟨x0, m0, m1, m2, m3, m4, m5⟩ := nm6 (HX0.out.grew (HG.out.trans hW)); rw [HN.out] at m1; go_simp; with_reducible rfl)
          refine held_take 7 (v := ?_) rfl (by kernel_rfl) (by kernel_rfl) (by kernel_rfl) (fun _ _ _ h => h) (by rfl) ?_ hS0 ?_; rotate_left; · (intro W hW; obtain ⟨x0, m0, m1, m2, m3, m4, m5⟩ := nm6 (HX0.out.grew (HG.out.trans hW)); rw [HN.out] at m1; go_simp; with_reducible rfl)
          refine held_norm (a' := ?_) ?_ ?_; rotate_left; · (go_simp; with_reducible rfl)
          refine held_take 8 (v := ?_) rfl (by kernel_rfl) (by kernel_rfl) (by kernel_rfl) (fun _ _ _ h => h) (by rfl) ?_ hS0 ?_; rotate_left; · (intro W hW; obtain ⟨hb, hc⟩ := HCq.out W hW; go_simp; with_reducible rfl)
          refine held_take 9 (v := ?_) rfl (by kernel_rfl) (by kernel_rfl) (by kernel_rfl) (fun _ _ _ h => h) (by rfl) ?_ hS0 ?_; rotate_left; · (intro W hW; obtain ⟨hb, hc⟩ := HCq.out W hW; go_simp; with_reducible rfl)
          refine held_norm (a' := ?_) ?_ ?_; rotate_left; · (go_simp; with_reducible rfl)
          refine held_take 11 (v := ?_) rfl (by kernel_rfl) (by kernel_rfl) (by kernel_rfl) (fun _ _ _ h => h) (by rfl) ?_ hS0 ?_; rotate_left; · (intro W hW; obtain ⟨x0, m0, m1, m2, m3, m4, m5⟩ := nm6 (HX0.out.grew (HG.out.trans hW)); rw [HN.out] at m1; go_simp; with_reducible rfl)
          refine held_take 12 (v := ?_) rfl (by kernel_rfl) (by kernel_rfl) (by kernel_rfl) (fun _ _ _ h => h) (by rfl) ?_ hS0 ?_; rotate_left; · (intro W hW; obtain ⟨x0, m0, m1, m2, m3, m4, m5⟩ := nm6 (HX0.out.grew (HG.out.trans hW)); rw [HN.out] at m1; go_simp; with_reducible rfl)
          refine held_take 13 (v := ?_) rfl (by kernel_rfl) (by kernel_rfl) (by kernel_rfl) (fun _ _ _ h => h) (by rfl) ?_ hS0 ?_; rotate_left; · (intro W hW; obtain ⟨x0, m0, m1, m2, m3, m4, m5⟩ := nm6 (HX0.out.grew (HG.out.trans hW)); rw [HN.out] at m1; go_simp; with_reducible rfl)
          refine held_take 14 (v := ?_) rfl (by kernel_rfl) (by kernel_rfl) (by kernel_rfl) (fun _ _ _ h => h) (by rfl) ?_ hS0 ?_; rotate_left; · (intro W hW; obtain ⟨x0, m0, m1, m2, m3, m4, m5⟩ := nm6 (HX0.out.grew (HG.out.trans hW)); rw [HN.out] at m1; go_simp; with_reducible rfl)
          refine held_norm (a' := ?_) ?_ ?_; rotate_left; · (go_simp; with_reducible rfl)
          refine held_take 15 (v := ?_) rfl (by kernel_rfl) (by kernel_rfl) (by kernel_rfl) (fun _ _ _ h => h) (by rfl) ?_ hS0 ?_; rotate_left; · (intro W hW; obtain ⟨hb, _⟩ := HCq.out W hW; have hc := HCm.out W hW; go_simp; with_reducible rfl)
          refine held_take 16 (v := ?_) rfl (by kernel_rfl) (by kernel_rfl) (by kernel_rfl) (fun _ _ _ h => h) (by rfl) ?_ hS0 ?_; rotate_left; · (intro W hW; obtain ⟨hb, _⟩ := HCq.out W hW; have hc := HCm.out W hW; go_simp; with_reducible rfl)
          refine held_norm (a' := ?_) ?_ ?_; rotate_left; · (go_simp; with_reducible rfl)
          refine held_call 10 (by kernel_rfl) rfl (by rfl) (fun K hK => ?_)
          go_simp
          go_wp2_with ((go_at_call 12; (with_reducible refine (HS1.out _ hS0).grows.mono ?_); rintro en w2 ⟨rfl, hg2⟩; have hS2 := hS0.trans hg2))
          refine hK.out _ _ hS2 ?_
          clear hK K
          refine held_call 17 (by kernel_rfl) rfl (by rfl) (fun K hK => ?_)
          go_simp
          go_wp2_with ((go_at_call 12; (with_reducible refine (HS2.out _ hS2).grows.mono ?_); rintro en w3 ⟨rfl, hg3⟩; have hS3 := hS2.trans hg3))
          refine hK.out _ _ hS3 ?_
          clear hK K
          by_cases hlt : sm < sq
          · have e1 : decide (sm < sq) = true := decide_eq_true hlt
            have HM1 : Hid (minAt key left (q + 1) = q) := Lib.hid (by rw [HMc.out, if_pos hlt])
            refine held_take 18 (v := ?_) rfl (by kernel_rfl) (by kernel_rfl) (by kernel_rfl) (fun _ _ _ h => h) (by rfl) ?_ hS3 ?_; rotate_left; · (intro W hW; go_simp; with_reducible rfl)
            refine held_take 19 (v := ?_) rfl (by kernel_rfl) (by kernel_rfl) (by kernel_rfl) (fun _ _ _ h => h) (by rfl) ?_ hS3 ?_; rotate_left; · (intro W hW; go_simp; with_reducible rfl)
            refine held_norm (a' := ?_) ?_ ?_; rotate_left; · (go_simp; with_reducible rfl)
            refine held_done (by kernel_rfl) ?_
            have HG3 := Lib.hid hS3
            clear hS0 hS2 hS3 hg2 hg3 hlt HMc HGx
            go_upto_region 10 with fail
            have hS0 : Grew wo w3.drew := HG3.out.drew
            refine wp_region_S (fun W => Grew wo W) (by kernel_rfl) ?_
            refine held_take 0 (v := ?_) rfl (by kernel_rfl) (by kernel_rfl) (by kernel_rfl) (fun _ _ _ h => h) (by rfl) ?_ hS0 ?_; rotate_left; · (intro W hW; go_simp; with_reducible rfl)
            refine held_take 1 (v := ?_) rfl (by kernel_rfl) (by kernel_rfl) (by kernel_rfl) (fun _ _ _ h => h) (by rfl) ?_ hS0 ?_; rotate_left; · (intro W hW; go_simp; with_reducible rfl)
            refine held_take 2 (v := ?_) rfl (by kernel_rfl) (by kernel_rfl) (by kernel_rfl) (fun _ _ _ h => h) (by rfl) ?_ hS0 ?_; rotate_left; · (intro W hW; go_simp; with_reducible rfl)
            refine held_take 3 (v := ?_) rfl (by kernel_rfl) (by kernel_rfl) (by kernel_rfl) (fun _ _ _ h => h) (by rfl) ?_ hS0 ?_; rotate_left; · (intro W hW; go_simp; with_reducible rfl)
            refine held_norm (a' := ?_) ?_ ?_; rotate_left; · (go_simp; with_reducible rfl)
            refine held_skip 4 rfl (by kernel_rfl) (by kernel_rfl) (by kernel_rfl) (fun _ _ _ h => h) (by rfl) hS0 ?_
            refine held_norm (a' := ?_) ?_ ?_; rotate_left; · (go_simp; with_reducible rfl)
            refine held_skip 5 rfl (by kernel_rfl) (by kernel_rfl) (by kernel_rfl) (fun _ _ _ h => h) (by rfl) hS0 ?_
            refine held_norm (a' := ?_) ?_ ?_; rotate_left; · (go_simp; with_reducible rfl)
            refine held_skip 6 rfl (by kernel_rfl) (by kernel_rfl) (by kernel_rfl) (fun _ _ _ h => h) (by rfl) hS0 ?_
            refine held_norm (a' := ?_) ?_ ?_; rotate_left; · (go_simp; with_reducible rfl)
            refine held_skip 7 rfl (by kernel_rfl) (by kernel_rfl) (by kernel_rfl) (fun _ _ _ h => h) (by rfl) hS0 ?_
            refine held_norm (a' := ?_) ?_ ?_; rotate_left; · (go_simp; with_reducible rfl)
            refine held_skip 8 rfl (by kernel_rfl) (by kernel_rfl) (by kernel_rfl) (fun _ _ _ h => h) (by rfl) hS0 ?_
            refine held_norm (a' := ?_) ?_ ?_; rotate_left; · (go_simp; with_reducible rfl)
            refine held_skip 9 rfl (by kernel_rfl) (by kernel_rfl) (by kernel_rfl) (fun _ _ _ h => h) (by rfl) hS0 ?_
            refine held_norm (a' := ?_) ?_ ?_; rotate_left; · (go_simp; with_reducible rfl)
            refine held_skip 10 rfl (by kernel_rfl) (by kernel_rfl) (by kernel_rfl) (fun _ _ _ h => h) (by rfl) hS0 ?_
            refine held_norm (a' := ?_) ?_ ?_; rotate_left; · (go_simp; with_reducible rfl)
            refine held_skip 11 rfl (by kernel_rfl) (by kernel_rfl) (by kernel_rfl) (fun _ _ _ h => h) (by rfl) hS0 ?_
            refine held_norm (a' := ?_) ?_ ?_; rotate_left; · (go_simp; with_reducible rfl)
            refine held_skip 12 rfl (by kernel_rfl) (by kernel_rfl) (by kernel_rfl) (fun _ _ _ h => h) (by rfl) hS0 ?_
            refine held_norm (a' := ?_) ?_ ?_; rotate_left; · (go_simp; with_reducible rfl)
            refine held_skip 13 rfl (by kernel_rfl) (by kernel_rfl) (by kernel_rfl) (fun _ _ _ h => h) (by rfl) hS0 ?_
            refine held_norm (a' := ?_) ?_ ?_; rotate_left; · (go_simp; with_reducible rfl)
            refine held_skip 14 rfl (by kernel_rfl) (by kernel_rfl) (by kernel_rfl) (fun _ _ _ h => h) (by rfl) hS0 ?_
            refine held_norm (a' := ?_) ?_ ?_; rotate_left; · (go_simp; with_reducible rfl)
            refine held_skip 15 rfl (by kernel_rfl) (by kernel_rfl) (by kernel_rfl) (fun _ _ _ h => h) (by rfl) hS0 ?_
            refine held_norm (a' := ?_) ?_ ?_; rotate_left; · (go_simp; with_reducible rfl)
            refine held_skip 16 rfl (by kernel_rfl) (by kernel_rfl) (by kernel_rfl) (fun _ _ _ h => h) (by rfl) hS0 ?_
            refine held_norm (a' := ?_) ?_ ?_; rotate_left; · (go_simp; with_reducible rfl)
            refine held_skip 17 rfl (by kernel_rfl) (by kernel_rfl) (by kernel_rfl) (fun _ _ _ h => h) (by rfl) hS0 ?_
            refine held_norm (a' := ?_) ?_ ?_; rotate_left; · (go_simp; with_reducible rfl)
            refine held_skip 18 rfl (by kernel_rfl) (by kernel_rfl) (by kernel_rfl) (fun _ _ _ h => h) (by rfl) hS0 ?_
            refine held_norm (a' := ?_) ?_ ?_; rotate_left; · (go_simp; with_reducible rfl)
            refine held_skip 19 rfl (by kernel_rfl) (by kernel_rfl) (by kernel_rfl) (fun _ _ _ h => h) (by rfl) hS0 ?_
            refine held_norm (a' := ?_) ?_ ?_; rotate_left; · (go_simp; with_reducible rfl)
            refine held_skip 20 rfl (by kernel_rfl) (by kernel_rfl) (by kernel_rfl) (fun _ _ _ h => h) (by rfl) hS0 ?_
            refine held_norm (a' := ?_) ?_ ?_; rotate_left; · (go_simp; with_reducible rfl)
            refine held_skip 21 rfl (by kernel_rfl) (by kernel_rfl) (by kernel_rfl) (fun _ _ _ h => h) (by rfl) hS0 ?_
            refine held_norm (a' := ?_) ?_ ?_; rotate_left; · (go_simp; with_reducible rfl)
            refine held_skip 22 rfl (by kernel_rfl) (by kernel_rfl) (by kernel_rfl) (fun _ _ _ h => h) (by rfl) hS0 ?_
            refine held_norm (a' := ?_) ?_ ?_; rotate_left; · (go_simp; with_reducible rfl)
            refine held_skip 23 rfl (by kernel_rfl) (by kernel_rfl) (by kernel_rfl) (fun _ _ _ h => h) (by rfl) hS0 ?_
            refine held_norm (a' := ?_) ?_ ?_; rotate_left; · (go_simp; with_reducible rfl)
            refine held_skip 24 rfl (by kernel_rfl) (by kernel_rfl) (by kernel_rfl) (fun _ _ _ h => h) (by rfl) hS0 ?_
            refine held_norm (a' := ?_) ?_ ?_; rotate_left; · (go_simp; with_reducible rfl)
            refine held_skip 25 rfl (by kernel_rfl) (by kernel_rfl) (by kernel_rfl) (fun _ _ _ h => h) (by rfl) hS0 ?_
            refine held_norm (a' := ?_) ?_ ?_; rotate_left; · (go_simp; with_reducible rfl)
            refine held_skip 26 rfl (by kernel_rfl) (by kernel_rfl) (by kernel_rfl) (fun _ _ _ h => h) (by rfl) hS0 ?_
            refine held_norm (a' := ?_) ?_ ?_; rotate_left; · (go_simp; with_reducible rfl)
            refine held_skip 27 rfl (by kernel_rfl) (by kernel_rfl) (by kernel_rfl) (fun _ _ _ h => h) (by rfl) hS0 ?_
            refine held_norm (a' := ?_) ?_ ?_; rotate_left; · (go_simp; with_reducible rfl)
            refine held_skip 28 rfl (by kernel_rfl) (by kernel_rfl) (by kernel_rfl) (fun _ _ _ h => h) (by rfl) hS0 ?_
            refine held_norm (a' := ?_) ?_ ?_; rotate_left; · (go_simp; with_reducible rfl)
            refine held_take 29 (v := ?_) rfl (by kernel_rfl) (by kernel_rfl) (by kernel_rfl) (fun _ _ _ h => h) (by rfl) ?_ hS0 ?_; rotate_left; · (intro W hW; go_simp; with_reducible rfl)
            refine held_norm (a' := ?_) ?_ ?_; rotate_left; · (go_simp; with_reducible rfl)
            refine held_done (by kernel_rfl) ?_
            have HG4 := Lib.hid hS0
            clear hS0 HG3
            go_wp2
            exact ⟨⟨q + 1, by omega, by omega, by go_num, by rw [HM1.out], HG4.out⟩, by simp only [intOf]; omega⟩
          · have e1 : decide (sm < sq) = false := decide_eq_false hlt
            have HM1 : Hid (minAt key left (q + 1) = mn) := Lib.hid (by rw [HMc.out, if_neg hlt])
            refine held_take 18 (v := ?_) rfl (by kernel_rfl) (by kernel_rfl) (by kernel_rfl) (fun _ _ _ h => h) (by rfl) ?_ hS3 ?_; rotate_left; · (intro W hW; go_simp; with_reducible rfl)
            refine held_take 19 (v := ?_) rfl (by kernel_rfl) (by kernel_rfl) (by kernel_rfl) (fun _ _ _ h => h) (by rfl) ?_ hS3 ?_; rotate_left; · (intro W hW; go_simp; with_reducible rfl)
            refine held_norm (a' := ?_) ?_ ?_; rotate_left; · (go_simp; with_reducible rfl)
            refine held_done (by kernel_rfl) ?_
            have HG3 := Lib.hid hS3
            clear hS0 hS2 hS3 hg2 hg3 hlt HMc HGx
            go_upto_region 10 with fail
            have hS0 : Grew wo w3.drew := HG3.out.drew
            refine wp_region_S (fun W => Grew wo W) (by kernel_rfl) ?_
            refine held_take 0 (v := ?_) rfl (by kernel_rfl) (by kernel_rfl) (by kernel_rfl) (fun _ _ _ h => h) (by rfl) ?_ hS0 ?_; rotate_left; · (intro W hW; go_simp; with_reducible rfl)
            refine held_take 1 (v := ?_) rfl (by kernel_rfl) (by kernel_rfl) (by kernel_rfl) (fun _ _ _ h => h) (by rfl) ?_ hS0 ?_; rotate_left; · (intro W hW; go_simp; with_reducible rfl)
            refine held_take 2 (v := ?_) rfl (by kernel_rfl) (by kernel_rfl) (by kernel_rfl) (fun _ _ _ h => h) (by rfl) ?_ hS0 ?_; rotate_left; · (intro W hW; go_simp; with_reducible rfl)
            refine held_take 3 (v := ?_) rfl (by kernel_rfl) (by kernel_rfl) (by kernel_rfl) (fun _ _ _ h => h) (by rfl) ?_ hS0 ?_; rotate_left; · (intro W hW; go_simp; with_reducible rfl)
            refine held_norm (a' := ?_) ?_ ?_; rotate_left; · (go_simp; with_reducible rfl)
            refine held_skip 4 rfl (by kernel_rfl) (by kernel_rfl) (by kernel_rfl) (fun _ _ _ h => h) (by rfl) hS0 ?_
            refine held_norm (a' := ?_) ?_ ?_; rotate_left; · (go_simp; with_reducible rfl)
            refine held_skip 5 rfl (by kernel_rfl) (by kernel_rfl) (by kernel_rfl) (fun _ _ _ h => h) (by rfl) hS0 ?_
            refine held_norm (a' := ?_) ?_ ?_; rotate_left; · (go_simp; with_reducible rfl)
            refine held_skip 6 rfl (by kernel_rfl) (by kernel_rfl) (by kernel_rfl) (fun _ _ _ h => h) (by rfl) hS0 ?_
            refine held_norm (a' := ?_) ?_ ?_; rotate_left; · (go_simp; with_reducible rfl)
            refine held_skip 7 rfl (by kernel_rfl) (by kernel_rfl) (by kernel_rfl) (fun _ _ _ h => h) (by rfl) hS0 ?_
            refine held_norm (a' := ?_) ?_ ?_; rotate_left; · (go_simp; with_reducible rfl)
            refine held_skip 8 rfl (by kernel_rfl) (by kernel_rfl) (by kernel_rfl) (fun _ _ _ h => h) (by rfl) hS0 ?_
            refine held_norm (a' := ?_) ?_ ?_; rotate_left; · (go_simp; with_reducible rfl)
            refine held_skip 9 rfl (by kernel_rfl) (by kernel_rfl) (by kernel_rfl) (fun _ _ _ h => h) (by rfl) hS0 ?_
            refine held_norm (a' := ?_) ?_ ?_; rotate_left; · (go_simp; with_reducible rfl)
            refine held_skip 10 rfl (by kernel_rfl) (by kernel_rfl) (by kernel_rfl) (fun _ _ _ h => h) (by rfl) hS0 ?_
            refine held_norm (a' := ?_) ?_ ?_; rotate_left; · (go_simp; with_reducible rfl)
            refine held_skip 11 rfl (by kernel_rfl) (by kernel_rfl) (by kernel_rfl) (fun _ _ _ h => h) (by rfl) hS0 ?_
            refine held_norm (a' := ?_) ?_ ?_; rotate_left; · (go_simp; with_reducible rfl)
            refine held_skip 12 rfl (by kernel_rfl) (by kernel_rfl) (by kernel_rfl) (fun _ _ _ h => h) (by rfl) hS0 ?_
            refine held_norm (a' := ?_) ?_ ?_; rotate_left; · (go_simp; with_reducible rfl)
            refine held_skip 13 rfl (by kernel_rfl) (by kernel_rfl) (by kernel_rfl) (fun _ _ _ h => h) (by rfl) hS0 ?_
            refine held_norm (a' := ?_) ?_ ?_; rotate_left; · (go_simp; with_reducible rfl)
            refine held_skip 14 rfl (by kernel_rfl) (by kernel_rfl) (by kernel_rfl) (fun _ _ _ h => h) (by rfl) hS0 ?_
            refine held_norm (a' := ?_) ?_ ?_; rotate_left; · (go_simp; with_reducible rfl)
            refine held_skip 15 rfl (by kernel_rfl) (by kernel_rfl) (by kernel_rfl) (fun _ _ _ h => h) (by rfl) hS0 ?_
            refine held_norm (a' := ?_) ?_ ?_; rotate_left; · (go_simp; with_reducible rfl)
            refine held_skip 16 rfl (by kernel_rfl) (by kernel_rfl) (by kernel_rfl) (fun _ _ _ h => h) (by rfl) hS0 ?_
            refine held_norm (a' := ?_) ?_ ?_; rotate_left; · (go_simp; with_reducible rfl)
            refine held_skip 17 rfl (by kernel_rfl) (by kernel_rfl) (by kernel_rfl) (fun _ _ _ h => h) (by rfl) hS0 ?_
            refine held_norm (a' := ?_) ?_ ?_; rotate_left; · (go_simp; with_reducible rfl)
            refine held_skip 18 rfl (by kernel_rfl) (by kernel_rfl) (by kernel_rfl) (fun _ _ _ h => h) (by rfl) hS0 ?_
            refine held_norm (a' := ?_) ?_ ?_; rotate_left; · (go_simp; with_reducible rfl)
            refine held_skip 19 rfl (by kernel_rfl) (by kernel_rfl) (by kernel_rfl) (fun _ _ _ h => h) (by rfl) hS0 ?_
            refine held_norm (a' := ?_) ?_ ?_; rotate_left; · (go_simp; with_reducible rfl)
            refine held_skip 20 rfl (by kernel_rfl) (by kernel_rfl) (by kernel_rfl) (fun _ _ _ h => h) (by rfl) hS0 ?_
            refine held_norm (a' := ?_) ?_ ?_; rotate_left; · (go_simp; with_reducible rfl)
            refine held_skip 21 rfl (by kernel_rfl) (by kernel_rfl) (by kernel_rfl) (fun _ _ _ h => h) (by rfl) hS0 ?_
            refine held_norm (a' := ?_) ?_ ?_; rotate_left; · (go_simp; with_reducible rfl)
            refine held_skip 22 rfl (by kernel_rfl) (by kernel_rfl) (by kernel_rfl) (fun _ _ _ h => h) (by rfl) hS0 ?_
            refine held_norm (a' := ?_) ?_ ?_; rotate_left; · (go_simp; with_reducible rfl)
            refine held_skip 23 rfl (by kernel_rfl) (by kernel_rfl) (by kernel_rfl) (fun _ _ _ h => h) (by rfl) hS0 ?_
            refine held_norm (a' := ?_) ?_ ?_; rotate_left; · (go_simp; with_reducible rfl)
            refine held_skip 24 rfl (by kernel_rfl) (by kernel_rfl) (by kernel_rfl) (fun _ _ _ h => h) (by rfl) hS0 ?_
            refine held_norm (a' := ?_) ?_ ?_; rotate_left; · (go_simp; with_reducible rfl)
            refine held_skip 25 rfl (by kernel_rfl) (by kernel_rfl) (by kernel_rfl) (fun _ _ _ h => h) (by rfl) hS0 ?_
            refine held_norm (a' := ?_) ?_ ?_; rotate_left; · (go_simp; with_reducible rfl)
            refine held_skip 26 rfl (by kernel_rfl) (by kernel_rfl) (by kernel_rfl) (fun _ _ _ h => h) (by rfl) hS0 ?_
            refine held_norm (a' := ?_) ?_ ?_; rotate_left; · (go_simp; with_reducible rfl)
            refine held_skip 27 rfl (by kernel_rfl) (by kernel_rfl) (by kernel_rfl) (fun _ _ _ h => h) (by rfl) hS0 ?_
            refine held_norm (a' := ?_) ?_ ?_; rotate_left; · (go_simp; with_reducible rfl)
            refine held_skip 28 rfl (by kernel_rfl) (by kernel_rfl) (by kernel_rfl) (fun _ _ _ h => h) (by rfl) hS0 ?_
            refine held_norm (a' := ?_) ?_ ?_; rotate_left; · (go_simp; with_reducible rfl)
            refine held_take 29 (v := ?_) rfl (by kernel_rfl) (by kernel_rfl) (by kernel_rfl) (fun _ _ _ h => h) (by rfl) ?_ hS0 ?_; rotate_left; · (intro W hW; go_simp; with_reducible rfl)
            refine held_norm (a' := ?_) ?_ ?_; rotate_left; · (go_simp; with_reducible rfl)
            refine held_done (by kernel_rfl) ?_
            have HG4 := Lib.hid hS0
            clear hS0 HG3
            go_wp2
            exact ⟨⟨q + 1, by omega, by omega, by go_num, by rw [HM1.out], HG4.out⟩, by simp only [intOf]; omega⟩
        · have HMc : Hid (minAt key left (q + 1) = if sz (out ++ [tq]) < sz (out ++ [tm]) then q else mn) := Lib.hid (by
            rw [HMs.out]
            unfold gKey
            rw [if_neg hoe, if_neg hoe])
          have hon0 : out.length ≠ 0 := fun h => hoe (List.eq_nil_of_length_eq_zero h)
          have e0 : ((out.length : Int) == 0) = false := by simp; omega
          have e0' : decide ((0 : Int) < (out.length : Int)) = true := decide_eq_true (by omega)
          have e0n : decide (0 < out.length) = true := decide_eq_true (by omega)
          have HZ1 := Lib.hid (HSz.out tq)
          have HZ2 := Lib.hid (HSz.out tm)
          clear HMs hoe
          generalize sz (out ++ [tq]) = zq at *
          generalize sz (out ++ [tm]) = zm at *
          go_upto_region 8 with fail
          have hS0 : Grew wo wr.drew := HGx.out.drew
          refine wp_region_S (fun W => Grew wo W) (by kernel_rfl) ?_
          refine held_take 0 (v := ?_) rfl (by kernel_rfl) (by kernel_rfl) (by kernel_rfl) (fun _ _ _ h => h) (by rfl) ?_ hS0 ?_; rotate_left; · (intro W hW; go_simp; with_reducible rfl)
          refine held_take 1 (v := ?_) rfl (by kernel_rfl) (by kernel_rfl) (by kernel_rfl) (fun _ _ _ h => h) (by rfl) ?_ hS0 ?_; rotate_left; · (intro W hW; go_simp; with_reducible rfl)
          refine held_take 2 (v := ?_) rfl (by kernel_rfl) (by kernel_rfl) (by kernel_rfl) (fun _ _ _ h => h) (by rfl) ?_ hS0 ?_; rotate_left; · (intro W hW; go_simp; with_reducible rfl)
          refine held_take 3 (v := ?_) rfl (by kernel_rfl) (by kernel_rfl) (by kernel_rfl) (fun _ _ _ h => h) (by rfl) ?_ hS0 ?_; rotate_left; · (intro W hW; go_simp; with_reducible rfl)
          refine held_norm (a' := ?_) ?_ ?_; rotate_left; · (go_simp; with_reducible rfl)
          refine held_skip 4 rfl (by kernel_rfl) (by kernel_rfl) (by kernel_rfl) (fun _ _ _ h => h) (by rfl) hS0 ?_
          refine held_norm (a' := ?_) ?_ ?_; rotate_left; · (go_simp; with_reducible rfl)
          refine held_skip 5 rfl (by kernel_rfl) (by kernel_rfl) (by kernel_rfl) (fun _ _ _ h => h) (by rfl) hS0 ?_
          refine held_norm (a' := ?_) ?_ ?_; rotate_left; · (go_simp; with_reducible rfl)
          refine held_skip 6 rfl (by kernel_rfl) (by kernel_rfl) (by kernel_rfl) (fun _ _ _ h => h) (by rfl) hS0 ?_
          refine held_norm (a' := ?_) ?_ ?_; rotate_left; · (go_simp; with_reducible rfl)
          refine held_skip 7 rfl (by kernel_rfl) (by kernel_rfl) (by kernel_rfl) (fun _ _ _ h => h) (by rfl) hS0 ?_
          refine held_norm (a' := ?_) ?_ ?_; rotate_left; · (go_simp; with_reducible rfl)
          refine held_skip 8 rfl (by kernel_rfl) (by kernel_rfl) (by kernel_rfl) (fun _ _ _ h => h) (by rfl) hS0 ?_
          refine held_norm (a' := ?_) ?_ ?_; rotate_left; · (go_simp; with_reducible rfl)
          refine held_skip 9 rfl (by kernel_rfl) (by kernel_rfl) (by kernel_rfl) (fun _ _ _ h => h) (by rfl) hS0 ?_
          refine held_norm (a' := ?_) ?_ ?_; rotate_left; · (go_simp; with_reducible rfl)
          refine held_skip 10 rfl (by kernel_rfl) (by kernel_rfl) (by kernel_rfl) (fun _ _ _ h => h) (by rfl) hS0 ?_
          refine held_norm (a' := ?_) ?_ ?_; rotate_left; · (go_simp; with_reducible rfl)
          refine held_skip 11 rfl (by kernel_rfl) (by kernel_rfl) (by kernel_rfl) (fun _ _ _ h => h) (by rfl) hS0 ?_
          refine held_norm (a' := ?_) ?_ ?_; rotate_left; · (go_simp; with_reducible rfl)
          refine held_skip 12 rfl (by kernel_rfl) (by kernel_rfl) (by kernel_rfl) (fun _ _ _ h => h) (by rfl) hS0 ?_
          refine held_norm (a' := ?_) ?_ ?_; rotate_left; · (go_simp; with_reducible rfl)
          refine held_skip 13 rfl (by kernel_rfl) (by kernel_rfl) (by kernel_rfl) (fun _ _ _ h => h) (by rfl) hS0 ?_
          refine held_norm (a' := ?_) ?_ ?_; rotate_left; · (go_simp; with_reducible rfl)
          refine held_skip 14 rfl (by kernel_rfl) (by kernel_rfl) (by kernel_rfl) (fun _ _ _ h => h) (by rfl) hS0 ?_
          refine held_norm (a' := ?_) ?_ ?_; rotate_left; · (go_simp; with_reducible rfl)
          refine held_skip 15 rfl (by kernel_rfl) (by kernel_rfl) (by kernel_rfl) (fun _ _ _ h => h) (by rfl) hS0 ?_
          refine held_norm (a' := ?_) ?_ ?_; rotate_left; · (go_simp; with_reducible rfl)
          refine held_skip 16 rfl (by kernel_rfl) (by kernel_rfl) (by kernel_rfl) (fun _ _ _ h => h) (by rfl) hS0 ?_
          refine held_norm (a' := ?_) ?_ ?_; rotate_left; · (go_simp; with_reducible rfl)
          refine held_skip 17 rfl (by kernel_rfl) (by kernel_rfl) (by kernel_rfl) (fun _ _ _ h => h) (by rfl) hS0 ?_
          refine held_norm (a' := ?_) ?_ ?_; rotate_left; · (go_simp; with_reducible rfl)
          refine held_skip 18 rfl (by kernel_rfl) (by kernel_rfl) (by kernel_rfl) (fun _ _ _ h => h) (by rfl) hS0 ?_
          refine held_norm (a' := ?_) ?_ ?_; rotate_left; · (go_simp; with_reducible rfl)
          refine held_take 19 (v := ?_) rfl (by kernel_rfl) (by kernel_rfl) (by kernel_rfl) (fun _ _ _ h => h) (by rfl) ?_ hS0 ?_; rotate_left; · (intro W hW; go_simp; with_reducible rfl)
          refine held_norm (a' := ?_) ?_ ?_; rotate_left; · (go_simp; with_reducible rfl)
          refine held_done (by kernel_rfl) ?_
          have HG3 := Lib.hid hS0
          clear hS0 HGx
          go_upto_region 10 with fail
          go_cut [70] (fun v wx => v = .bool (decide (zq < zm)) ∧ Grew wo wx)
          case first =>
            obtain ⟨W1, hW1⟩ : ∃ W1, W1 = wr.drew.drew := ⟨_, rfl⟩
            have hS0 : Grew wo W1 := by rw [hW1]; exact HG3.out.drew
            have HL1 : Hid ((iV out).length = out.length * 1) := Lib.hid (by simp [iV])
            have H11 := Lib.hid (iV_one out)
            have HNq : Hid (iV (out ++ [tq]) = iV out ++ [.int .i64 tq]) := Lib.hid (by simp [iV])
            have HNm : Hid (iV (out ++ [tm]) = iV out ++ [.int .i64 tm]) := Lib.hid (by simp [iV])
            refine wp_region_S (fun W => Grew wo W) (by kernel_rfl) ?_
            rw [← hW1]
            clear hW1
            refine held_take 0 (v := ?_) rfl (by kernel_rfl) (by kernel_rfl) (by kernel_rfl) (fun _ _ _ h => h) (by rfl) ?_ hS0 ?_; rotate_left; · (intro W hW; go_simp; with_reducible rfl)
            refine held_take 1 (v := ?_) rfl (by kernel_rfl) (by kernel_rfl) (by kernel_rfl) (fun _ _ _ h => h) (by rfl) ?_ hS0 ?_; rotate_left; · (intro W hW; go_simp; with_reducible rfl)
            refine held_take 2 (v := ?_) rfl (by kernel_rfl) (by kernel_rfl) (by kernel_rfl) (fun _ _ _ h => h) (by rfl) ?_ hS0 ?_; rotate_left; · (intro W hW; go_simp; with_reducible rfl)
            refine held_take 3 (v := ?_) rfl (by kernel_rfl) (by kernel_rfl) (by kernel_rfl) (fun _ _ _ h => h) (by rfl) ?_ hS0 ?_; rotate_left; · (intro W hW; go_simp; with_reducible rfl)
            refine held_norm (a' := ?_) ?_ ?_; rotate_left; · (go_simp; with_reducible rfl)
            refine held_take 4 (v := ?_) rfl (by kernel_rfl) (by kernel_rfl) (by kernel_rfl) (fun _ _ _ h => h) (by rfl) ?_ hS0 ?_; rotate_left; · (intro W hW; obtain ⟨x0, m0, m1, m2, m3, m4, m5⟩ := nm6 (HX0.out.grew (HG.out.trans hW)); rw [HN.out] at m1; go_simp; with_reducible rfl)
            refine held_take 5 (v := ?_) rfl (by kernel_rfl) (by kernel_rfl) (by kernel_rfl) (fun _ _ _ h => h) (by rfl) ?_ hS0 ?_; rotate_left; · (intro W hW; obtain ⟨x0, m0, m1, m2, m3, m4, m5⟩ := nm6 (HX0.out.grew (HG.out.trans hW)); rw [HN.out] at m1; go_simp; with_reducible rfl)
            refine held_take 7 (v := ?_) rfl (by kernel_rfl) (by kernel_rfl) (by kernel_rfl) (fun _ _ _ h => h) (by rfl) ?_ hS0 ?_; rotate_left; · (intro W hW; obtain ⟨x0, m0, m1, m2, m3, m4, m5⟩ := nm6 (HX0.out.grew (HG.out.trans hW)); rw [HN.out] at m1; go_simp; with_reducible rfl)
            refine held_norm (a' := ?_) ?_ ?_; rotate_left; · (go_simp; with_reducible rfl)
            refine held_take 9 (v := ?_) rfl (by kernel_rfl) (by kernel_rfl) (by kernel_rfl) (fun _ _ _ h => h) (by rfl) ?_ hS0 ?_; rotate_left; · (intro W hW; obtain ⟨hb, hc⟩ := HCq.out W hW; go_simp; with_reducible rfl)
            refine held_take 10 (v := ?_) rfl (by kernel_rfl) (by kernel_rfl) (by kernel_rfl) (fun _ _ _ h => h) (by rfl) ?_ hS0 ?_; rotate_left; · (intro W hW; obtain ⟨hb, hc⟩ := HCq.out W hW; go_simp; with_reducible rfl)
            refine held_take 11 (v := ?_) rfl (by kernel_rfl) (by kernel_rfl) (by kernel_rfl) (fun _ _ _ h => h) (by rfl) ?_ hS0 ?_; rotate_left; · (intro W hW; obtain ⟨hb, hc⟩ := HCq.out W hW; go_simp; with_reducible rfl)
            refine held_take 12 (v := ?_) rfl (by kernel_rfl) (by kernel_rfl) (by kernel_rfl) (fun _ _ _ h => h) (by rfl) ?_ hS0 ?_; rotate_left; · (intro W hW; obtain ⟨hb, hc⟩ := HCq.out W hW; go_simp; with_reducible rfl)
            refine held_norm (a' := ?_) ?_ ?_; rotate_left; · (go_simp; with_reducible rfl)
            refine held_take 16 (v := ?_) rfl (by kernel_rfl) (by kernel_rfl) (by kernel_rfl) (fun _ _ _ h => h) (by rfl) ?_ hS0 ?_; rotate_left; · (intro W hW; obtain ⟨x0, m0, m1, m2, m3, m4, m5⟩ := nm6 (HX0.out.grew (HG.out.trans hW)); rw [HN.out] at m1; go_simp; with_reducible rfl)
            refine held_take 17 (v := ?_) rfl (by kernel_rfl) (by kernel_rfl) (by kernel_rfl) (fun _ _ _ h => h) (by rfl) ?_ hS0 ?_; rotate_left; · (intro W hW; obtain ⟨x0, m0, m1, m2, m3, m4, m5⟩ := nm6 (HX0.out.grew (HG.out.trans hW)); rw [HN.out] at m1; go_simp; with_reducible rfl)
            refine held_take 19 (v := ?_) rfl (by kernel_rfl) (by kernel_rfl) (by kernel_rfl) (fun _ _ _ h => h) (by rfl) ?_ hS0 ?_; rotate_left; · (intro W hW; obtain ⟨x0, m0, m1, m2, m3, m4, m5⟩ := nm6 (HX0.out.grew (HG.out.trans hW)); rw [HN.out] at m1; go_simp; with_reducible rfl)
            refine held_norm (a' := ?_) ?_ ?_; rotate_left; · (go_simp; with_reducible rfl)
            refine held_take 21 (v := ?_) rfl (by kernel_rfl) (by kernel_rfl) (by kernel_rfl) (fun _ _ _ h => h) (by rfl) ?_ hS0 ?_; rotate_left; · (intro W hW; obtain ⟨hb, _⟩ := HCq.out W hW; have hc := HCm.out W hW; go_simp; with_reducible rfl)
            refine held_take 22 (v := ?_) rfl (by kernel_rfl) (by kernel_rfl) (by kernel_rfl) (fun _ _ _ h => h) (by rfl) ?_ hS0 ?_; rotate_left; · (intro W hW; obtain ⟨hb, _⟩ := HCq.out W hW; have hc := HCm.out W hW; go_simp; with_reducible rfl)
            refine held_take 23 (v := ?_) rfl (by kernel_rfl) (by kernel_rfl) (by kernel_rfl) (fun _ _ _ h => h) (by rfl) ?_ hS0 ?_; rotate_left; · (intro W hW; obtain ⟨hb, _⟩ := HCq.out W hW; have hc := HCm.out W hW; go_simp; with_reducible rfl)
            refine held_take 24 (v := ?_) rfl (by kernel_rfl) (by kernel_rfl) (by kernel_rfl) (fun _ _ _ h => h) (by rfl) ?_ hS0 ?_; rotate_left; · (intro W hW; obtain ⟨hb, _⟩ := HCq.out W hW; have hc := HCm.out W hW; go_simp; with_reducible rfl)
            refine held_norm (a' := ?_) ?_ ?_; rotate_left; · (go_simp; with_reducible rfl)
            refine held_captureO fun OPS A0 Q0 hO hA hQ => ?_
            have HO := Lib.hid hO
            have HA := Lib.hid hA
            have HQ := Lib.hid hQ
            clear hO hA hQ
            have st_6_8_13_14_15_18_20_25_26_27 : ∀ (W : World) (b6 : Nat) (A8 : Option Addr) (c8 : Nat) (b13 : Nat) (A14 : Option Addr) (c14 : Nat) (b18 : Nat) (A20 : Option Addr) (c20 : Nat) (b25 : Nat) (A26 : Option Addr) (c26 : Nat), (Grew wo W) → wpAnyH Tryz.prog .any OPS Q0 (fun W => Grew wo W) 2 #[true, true, true, true, true, true, true, true, true, true, true, true, true, true, true, true, true, true, true, true, true, true, true, true, true, true, true, true, false, false] ((((((((((A0.put (some 47) (.slice (some ⟨b6, 0, none⟩) 0 0)).put (some 49) (.slice A8 out.length c8)).put (some 54) (.slice (some ⟨b13, 0, none⟩) 1 1)).put (some 55) (.slice A14 (out.length + 1) c14)).put (some 56) (.int .i64 zq)).put (some 59) (.slice (some ⟨b18, 0, none⟩) 0 0)).put (some 61) (.slice A20 out.length c20)).put (some 66) (.slice (some ⟨b25, 0, none⟩) 1 1)).put (some 67) (.slice A26 (out.length + 1) c26)).put (some 68) (.int .i64 zm)) W := by
              intro W b6 A8 c8 b13 A14 c14 b18 A20 c20 b25 A26 c26 hS
              rw [HO.out, HA.out, HQ.out]
              refine held_norm (a' := ?_) ?_ ?_; rotate_left; · (go_simp; with_reducible rfl)
              refine held_take 28 (v := ?_) rfl (by kernel_rfl) (by kernel_rfl) (by kernel_rfl) (fun _ _ _ h => h) (by rfl) ?_ hS ?_; rotate_left; · (intro W hW; go_simp; with_reducible rfl)
              refine held_take 29 (v := ?_) rfl (by kernel_rfl) (by kernel_rfl) (by kernel_rfl) (fun _ _ _ h => h) (by rfl) ?_ hS ?_; rotate_left; · (intro W hW; go_simp; with_reducible rfl)
              refine held_norm (a' := ?_) ?_ ?_; rotate_left; · (go_simp; with_reducible rfl)
              refine held_done (by kernel_rfl) ?_
              go_wp2_with fail
              go_meet
              exact ⟨rfl, hS⟩
            have st_6_8_13_14_15_18_20_25_26 : ∀ (W : World) (b6 : Nat) (A8 : Option Addr) (c8 : Nat) (b13 : Nat) (A14 : Option Addr) (c14 : Nat) (b18 : Nat) (A20 : Option Addr) (c20 : Nat) (b25 : Nat) (A26 : Option Addr) (c26 : Nat), (Grew wo W) → (Row W A26 (iV (out ++ [tm]))) → wpAnyH Tryz.prog .any OPS Q0 (fun W => Grew wo W) 3 #[true, true, true, true, true, true, true, true, true, true, true, true, true, true, true, true, true, true, true, true, true, true, true, true, true, true, true, false, false, false] (((((((((A0.put (some 47) (.slice (some ⟨b6, 0, none⟩) 0 0)).put (some 49) (.slice A8 out.length c8)).put (some 54) (.slice (some ⟨b13, 0, none⟩) 1 1)).put (some 55) (.slice A14 (out.length + 1) c14)).put (some 56) (.int .i64 zq)).put (some 59) (.slice (some ⟨b18, 0, none⟩) 0 0)).put (some 61) (.slice A20 out.length c20)).put (some 66) (.slice (some ⟨b25, 0, none⟩) 1 1)).put (some 67) (.slice A26 (out.length + 1) c26)) W := by
              intro W b6 A8 c8 b13 A14 c14 b18 A20 c20 b25 A26 c26 hS hY
              rw [HO.out, HA.out]
              refine held_norm (a' := ?_) ?_ ?_; rotate_left; · (go_simp; with_reducible rfl)
              refine held_call 27 (by kernel_rfl) rfl (by rfl) (fun K hK => ?_)
              go_simp
              go_wp2_with (go_at_call 17; (with_reducible refine (HZ2.out _ _ _ hS hY).grows.mono ?_); rintro en wn ⟨rfl, hgn⟩)
              refine hK.out _ _ (hS.trans hgn) ?_
              clear hK K
              have h := st_6_8_13_14_15_18_20_25_26_27 wn b6 A8 c8 b13 A14 c14 b18 A20 c20 b25 A26 c26 (hS.trans hgn)
              rw [HO.out, HA.out] at h; exact held_listO (by kernel_rfl) (by kernel_rfl) h
            have st_6_8_13_14_15_18_20_25 : ∀ (W : World) (b6 : Nat) (A8 : Option Addr) (c8 : Nat) (b13 : Nat) (A14 : Option Addr) (c14 : Nat) (b18 : Nat) (A20 : Option Addr) (c20 : Nat) (b25 : Nat), (Grew wo W) → (W.ownsRow wo.heap.size 3 1 (Value.slice A20 out.length c20) out.length (iV out)) → (Blok W b25 3 #[.int .i64 tm]) → (∀ z, (Value.slice A20 out.length c20).ownBlock = some z → z ≠ b25) → wpAnyH Tryz.prog .any OPS Q0 (fun W => Grew wo W) 4 #[true, true, true, true, true, true, true, true, true, true, true, true, true, true, true, true, true, true, true, true, true, true, true, true, true, true, false, false, false, false] ((((((((A0.put (some 47) (.slice (some ⟨b6, 0, none⟩) 0 0)).put (some 49) (.slice A8 out.length c8)).put (some 54) (.slice (some ⟨b13, 0, none⟩) 1 1)).put (some 55) (.slice A14 (out.length + 1) c14)).put (some 56) (.int .i64 zq)).put (some 59) (.slice (some ⟨b18, 0, none⟩) 0 0)).put (some 61) (.slice A20 out.length c20)).put (some 66) (.slice (some ⟨b25, 0, none⟩) 1 1)) W := by
              intro W b6 A8 c8 b13 A14 c14 b18 A20 c20 b25 hS hY h25 dY25
              rw [HO.out, HA.out]
              refine held_norm (a' := ?_) ?_ ?_; rotate_left; · (go_simp; with_reducible rfl)
              refine held_call 26 (by kernel_rfl) rfl (by rfl) (fun K hK => ?_)
              refine wp_appsO (.tmp 61) (.tmp 66) 31 3 1 rfl wo (.int .i64 0) 8 Tryz.underlying31 infoI rfl (by decide) (by decide) _ out.length (iV out) rfl hY _ 1 1 [.int .i64 tm] rfl rfl (row_blokO h25) (by simp [Value.oneCell']) (by omega) hS ?_
              intro A26 c26 wn hon hrn hgn hbn horn
              refine hK.out _ _ hgn ?_
              clear hK K
              have h := st_6_8_13_14_15_18_20_25_26 wn b6 A8 c8 b13 A14 c14 b18 A20 c20 b25 A26 c26 (hgn) (by rw [HNm.out]; exact hrn)
              rw [HO.out, HA.out] at h; exact held_listO (by kernel_rfl) (by kernel_rfl) h
            have st_6_8_13_14_15_18_20 : ∀ (W : World) (b6 : Nat) (A8 : Option Addr) (c8 : Nat) (b13 : Nat) (A14 : Option Addr) (c14 : Nat) (b18 : Nat) (A20 : Option Addr) (c20 : Nat), (Grew wo W) → (W.ownsRow wo.heap.size 3 1 (Value.slice A20 out.length c20) out.length (iV out)) → wpAnyH Tryz.prog .any OPS Q0 (fun W => Grew wo W) 5 #[true, true, true, true, true, true, true, true, true, true, true, true, true, true, true, true, true, true, true, true, true, true, true, true, true, false, false, false, false, false] (((((((A0.put (some 47) (.slice (some ⟨b6, 0, none⟩) 0 0)).put (some 49) (.slice A8 out.length c8)).put (some 54) (.slice (some ⟨b13, 0, none⟩) 1 1)).put (some 55) (.slice A14 (out.length + 1) c14)).put (some 56) (.int .i64 zq)).put (some 59) (.slice (some ⟨b18, 0, none⟩) 0 0)).put (some 61) (.slice A20 out.length c20)) W := by
              intro W b6 A8 c8 b13 A14 c14 b18 A20 c20 hS hY
              rw [HO.out, HA.out]
              refine held_norm (a' := ?_) ?_ ?_; rotate_left; · (go_simp; with_reducible rfl)
              refine held_call 25 (by kernel_rfl) rfl (by rfl) (fun K hK => ?_)
              go_simp
              go_wp2_with fail
              refine hK.out _ _ (hS.alloc _) ?_
              clear hK K
              obtain ⟨Wn, hWn⟩ : ∃ Wn, Wn = W.alloc (.cells #[.int .i64 tm] 3) := ⟨_, rfl⟩
              obtain ⟨b25, hbn⟩ : ∃ bn, bn = W.heap.size := ⟨_, rfl⟩
              have hSn : Grew wo Wn := by rw [hWn]; exact hS.alloc _
              rw [← hWn, ← hbn]
              have h := st_6_8_13_14_15_18_20_25 Wn b6 A8 c8 b13 A14 c14 b18 A20 c20 b25 (hSn) (by rw [hWn]; exact own_alloc hY _) (by rw [hWn]; exact Blok.new _ _ _ _ hbn) (fun z hz he => by have := own_lt hY z hz; omega)
              rw [HO.out, HA.out] at h; exact held_listO (by kernel_rfl) (by kernel_rfl) h
            have st_6_8_13_14_15_18_25 : ∀ (W : World) (b6 : Nat) (A8 : Option Addr) (c8 : Nat) (b13 : Nat) (A14 : Option Addr) (c14 : Nat) (b18 : Nat) (b25 : Nat), (Grew wo W) → (W.ownsRow wo.heap.size 3 1 (Value.slice (some ⟨b18, 0, none⟩) 0 0) 0 []) → (Blok W b25 3 #[.int .i64 tm]) → (∀ z, (Value.slice (some ⟨b18, 0, none⟩) 0 0).ownBlock = some z → z ≠ b25) → wpAnyH Tryz.prog .any OPS Q0 (fun W => Grew wo W) 5 #[true, true, true, true, true, true, true, true, true, true, true, true, true, true, true, true, true, true, true, true, false, true, true, true, true, true, false, false, false, false] (((((((A0.put (some 47) (.slice (some ⟨b6, 0, none⟩) 0 0)).put (some 49) (.slice A8 out.length c8)).put (some 54) (.slice (some ⟨b13, 0, none⟩) 1 1)).put (some 55) (.slice A14 (out.length + 1) c14)).put (some 56) (.int .i64 zq)).put (some 59) (.slice (some ⟨b18, 0, none⟩) 0 0)).put (some 66) (.slice (some ⟨b25, 0, none⟩) 1 1)) W := by
              intro W b6 A8 c8 b13 A14 c14 b18 b25 hS hY h25 dY25
              rw [HO.out, HA.out]
              refine held_norm (a' := ?_) ?_ ?_; rotate_left; · (go_simp; with_reducible rfl)
              refine held_call 20 (by kernel_rfl) rfl (by rfl) (fun K hK => ?_)
              refine wp_appsO (.tmp 59) (.tmp 60) 31 3 1 rfl wo (.int .i64 0) 8 Tryz.underlying31 infoI rfl (by decide) (by decide) _ 0 [] rfl hY _ out.length co (iV out) rfl HL1.out (HRo.out _ hS) H11.out (by omega) hS ?_
              intro A20 c20 wn hon hrn hgn hbn horn
              rw [Nat.zero_add, List.nil_append] at hon
              rw [Nat.zero_add] at horn
              rw [Nat.zero_add]
              refine hK.out _ _ hgn ?_
              clear hK K
              have h := st_6_8_13_14_15_18_20_25 wn b6 A8 c8 b13 A14 c14 b18 A20 c20 b25 (hgn) (hon) (h25.grown hbn (fun h => dY25 _ h rfl)) (dis_app horn dY25 h25.lt)
              rw [HO.out, HA.out] at h; exact held_listO (by kernel_rfl) (by kernel_rfl) h
            have st_6_8_13_14_15_18 : ∀ (W : World) (b6 : Nat) (A8 : Option Addr) (c8 : Nat) (b13 : Nat) (A14 : Option Addr) (c14 : Nat) (b18 : Nat), (Grew wo W) → (W.ownsRow wo.heap.size 3 1 (Value.slice (some ⟨b18, 0, none⟩) 0 0) 0 []) → wpAnyH Tryz.prog .any OPS Q0 (fun W => Grew wo W) 6 #[true, true, true, true, true, true, true, true, true, true, true, true, true, true, true, true, true, true, true, true, false, true, true, true, true, false, false, false, false, false] ((((((A0.put (some 47) (.slice (some ⟨b6, 0, none⟩) 0 0)).put (some 49) (.slice A8 out.length c8)).put (some 54) (.slice (some ⟨b13, 0, none⟩) 1 1)).put (some 55) (.slice A14 (out.length + 1) c14)).put (some 56) (.int .i64 zq)).put (some 59) (.slice (some ⟨b18, 0, none⟩) 0 0)) W := by
              intro W b6 A8 c8 b13 A14 c14 b18 hS hY
              rw [HO.out, HA.out]
              refine held_norm (a' := ?_) ?_ ?_; rotate_left; · (go_simp; with_reducible rfl)
              refine held_pairO 20 25 (by kernel_rfl) rfl rfl (by rfl) (by rfl) (fun K hK => ?_) (fun K hK => ?_)
              · refine wp_appsO (.tmp 59) (.tmp 60) 31 3 1 rfl wo (.int .i64 0) 8 Tryz.underlying31 infoI rfl (by decide) (by decide) _ 0 [] rfl hY _ out.length co (iV out) rfl HL1.out (HRo.out _ hS) H11.out (by omega) hS ?_
                intro A20 c20 wn hon hrn hgn hbn horn
                rw [Nat.zero_add, List.nil_append] at hon
                rw [Nat.zero_add] at horn
                rw [Nat.zero_add]
                refine hK.out _ _ hgn ?_
                clear hK K
                have h := st_6_8_13_14_15_18_20 wn b6 A8 c8 b13 A14 c14 b18 A20 c20 (hgn) (hon)
                rw [HO.out, HA.out] at h; exact held_listO (by kernel_rfl) (by kernel_rfl) h
              · go_simp
                go_wp2_with fail
                refine hK.out _ _ (hS.alloc _) ?_
                clear hK K
                obtain ⟨Wn, hWn⟩ : ∃ Wn, Wn = W.alloc (.cells #[.int .i64 tm] 3) := ⟨_, rfl⟩
                obtain ⟨b25, hbn⟩ : ∃ bn, bn = W.heap.size := ⟨_, rfl⟩
                have hSn : Grew wo Wn := by rw [hWn]; exact hS.alloc _
                rw [← hWn, ← hbn]
                have h := st_6_8_13_14_15_18_25 Wn b6 A8 c8 b13 A14 c14 b18 b25 (hSn) (by rw [hWn]; exact own_alloc hY _) (by rw [hWn]; exact Blok.new _ _ _ _ hbn) (fun z hz he => by have := own_lt hY z hz; omega)
                rw [HO.out, HA.out] at h; exact held_listO (by kernel_rfl) (by kernel_rfl) h
            have st_6_8_13_14_15_25 : ∀ (W : World) (b6 : Nat) (A8 : Option Addr) (c8 : Nat) (b13 : Nat) (A14 : Option Addr) (c14 : Nat) (b25 : Nat), (Grew wo W) → (Blok W b25 3 #[.int .i64 tm]) → wpAnyH Tryz.prog .any OPS Q0 (fun W => Grew wo W) 6 #[true, true, true, true, true, true, true, true, true, true, true, true, true, true, true, true, true, true, false, true, false, true, true, true, true, true, false, false, false, false] ((((((A0.put (some 47) (.slice (some ⟨b6, 0, none⟩) 0 0)).put (some 49) (.slice A8 out.length c8)).put (some 54) (.slice (some ⟨b13, 0, none⟩) 1 1)).put (some 55) (.slice A14 (out.length + 1) c14)).put (some 56) (.int .i64 zq)).put (some 66) (.slice (some ⟨b25, 0, none⟩) 1 1)) W := by
              intro W b6 A8 c8 b13 A14 c14 b25 hS h25
              rw [HO.out, HA.out]
              refine held_norm (a' := ?_) ?_ ?_; rotate_left; · (go_simp; with_reducible rfl)
              refine held_call 18 (by kernel_rfl) rfl (by rfl) (fun K hK => ?_)
              go_simp
              go_wp2_with fail
              refine hK.out _ _ (hS.alloc _) ?_
              clear hK K
              obtain ⟨Wn, hWn⟩ : ∃ Wn, Wn = W.alloc (.cells #[] 3) := ⟨_, rfl⟩
              obtain ⟨b18, hbn⟩ : ∃ bn, bn = W.heap.size := ⟨_, rfl⟩
              have hSn : Grew wo Wn := by rw [hWn]; exact hS.alloc _
              rw [← hWn, ← hbn]
              have h := st_6_8_13_14_15_18_25 Wn b6 A8 c8 b13 A14 c14 b18 b25 (hSn) (by rw [hWn]; exact own_empty W _ _ _ _ hbn (by rw [hbn]; exact hS.size)) (by rw [hWn]; exact h25.alloc _) (fun z hz he => by injection hz with hz; have h1 : b18 = z := hz; have := h25.lt; omega)
              rw [HO.out, HA.out] at h; exact held_listO (by kernel_rfl) (by kernel_rfl) h
            have st_6_8_13_14_18_25 : ∀ (W : World) (b6 : Nat) (A8 : Option Addr) (c8 : Nat) (b13 : Nat) (A14 : Option Addr) (c14 : Nat) (b18 : Nat) (b25 : Nat), (Grew wo W) → (Row W A14 (iV (out ++ [tq]))) → (W.ownsRow wo.heap.size 3 1 (Value.slice (some ⟨b18, 0, none⟩) 0 0) 0 []) → (Blok W b25 3 #[.int .i64 tm]) → (∀ z, (Value.slice (some ⟨b18, 0, none⟩) 0 0).ownBlock = some z → z ≠ b25) → wpAnyH Tryz.prog .any OPS Q0 (fun W => Grew wo W) 6 #[true, true, true, true, true, true, true, true, true, true, true, true, true, true, true, false, true, true, true, true, false, true, true, true, true, true, false, false, false, false] ((((((A0.put (some 47) (.slice (some ⟨b6, 0, none⟩) 0 0)).put (some 49) (.slice A8 out.length c8)).put (some 54) (.slice (some ⟨b13, 0, none⟩) 1 1)).put (some 55) (.slice A14 (out.length + 1) c14)).put (some 59) (.slice (some ⟨b18, 0, none⟩) 0 0)).put (some 66) (.slice (some ⟨b25, 0, none⟩) 1 1)) W := by
              intro W b6 A8 c8 b13 A14 c14 b18 b25 hS hX hY h25 dY25
              rw [HO.out, HA.out]
              refine held_norm (a' := ?_) ?_ ?_; rotate_left; · (go_simp; with_reducible rfl)
              refine held_call 15 (by kernel_rfl) rfl (by rfl) (fun K hK => ?_)
              go_simp
              go_wp2_with (go_at_call 17; (with_reducible refine (HZ1.out _ _ _ hS hX).grows.mono ?_); rintro en wn ⟨rfl, hgn⟩)
              refine hK.out _ _ (hS.trans hgn) ?_
              clear hK K
              have h := st_6_8_13_14_15_18_25 wn b6 A8 c8 b13 A14 c14 b18 b25 (hS.trans hgn) (own_grewE hY hgn) (h25.grew hgn) (dY25)
              rw [HO.out, HA.out] at h; exact held_listO (by kernel_rfl) (by kernel_rfl) h
            have st_6_8_13_14_15 : ∀ (W : World) (b6 : Nat) (A8 : Option Addr) (c8 : Nat) (b13 : Nat) (A14 : Option Addr) (c14 : Nat), (Grew wo W) → wpAnyH Tryz.prog .any OPS Q0 (fun W => Grew wo W) 7 #[true, true, true, true, true, true, true, true, true, true, true, true, true, true, true, true, true, true, false, true, false, true, true, true, true, false, false, false, false, false] (((((A0.put (some 47) (.slice (some ⟨b6, 0, none⟩) 0 0)).put (some 49) (.slice A8 out.length c8)).put (some 54) (.slice (some ⟨b13, 0, none⟩) 1 1)).put (some 55) (.slice A14 (out.length + 1) c14)).put (some 56) (.int .i64 zq)) W := by
              intro W b6 A8 c8 b13 A14 c14 hS
              rw [HO.out, HA.out]
              refine held_norm (a' := ?_) ?_ ?_; rotate_left; · (go_simp; with_reducible rfl)
              refine held_pairO 18 25 (by kernel_rfl) rfl rfl (by rfl) (by rfl) (fun K hK => ?_) (fun K hK => ?_)
              · go_simp
                go_wp2_with fail
                refine hK.out _ _ (hS.alloc _) ?_
                clear hK K
                obtain ⟨Wn, hWn⟩ : ∃ Wn, Wn = W.alloc (.cells #[] 3) := ⟨_, rfl⟩
                obtain ⟨b18, hbn⟩ : ∃ bn, bn = W.heap.size := ⟨_, rfl⟩
                have hSn : Grew wo Wn := by rw [hWn]; exact hS.alloc _
                rw [← hWn, ← hbn]
                have h := st_6_8_13_14_15_18 Wn b6 A8 c8 b13 A14 c14 b18 (hSn) (by rw [hWn]; exact own_empty W _ _ _ _ hbn (by rw [hbn]; exact hS.size))
                rw [HO.out, HA.out] at h; exact held_listO (by kernel_rfl) (by kernel_rfl) h
              · go_simp
                go_wp2_with fail
                refine hK.out _ _ (hS.alloc _) ?_
                clear hK K
                obtain ⟨Wn, hWn⟩ : ∃ Wn, Wn = W.alloc (.cells #[.int .i64 tm] 3) := ⟨_, rfl⟩
                obtain ⟨b25, hbn⟩ : ∃ bn, bn = W.heap.size := ⟨_, rfl⟩
                have hSn : Grew wo Wn := by rw [hWn]; exact hS.alloc _
                rw [← hWn, ← hbn]
                have h := st_6_8_13_14_15_25 Wn b6 A8 c8 b13 A14 c14 b25 (hSn) (by rw [hWn]; exact Blok.new _ _ _ _ hbn)
                rw [HO.out, HA.out] at h; exact held_listO (by kernel_rfl) (by kernel_rfl) h
            have st_6_8_13_14_18 : ∀ (W : World) (b6 : Nat) (A8 : Option Addr) (c8 : Nat) (b13 : Nat) (A14 : Option Addr) (c14 : Nat) (b18 : Nat), (Grew wo W) → (Row W A14 (iV (out ++ [tq]))) → (W.ownsRow wo.heap.size 3 1 (Value.slice (some ⟨b18, 0, none⟩) 0 0) 0 []) → wpAnyH Tryz.prog .any OPS Q0 (fun W => Grew wo W) 7 #[true, true, true, true, true, true, true, true, true, true, true, true, true, true, true, false, true, true, true, true, false, true, true, true, true, false, false, false, false, false] (((((A0.put (some 47) (.slice (some ⟨b6, 0, none⟩) 0 0)).put (some 49) (.slice A8 out.length c8)).put (some 54) (.slice (some ⟨b13, 0, none⟩) 1 1)).put (some 55) (.slice A14 (out.length + 1) c14)).put (some 59) (.slice (some ⟨b18, 0, none⟩) 0 0)) W := by
              intro W b6 A8 c8 b13 A14 c14 b18 hS hX hY
              rw [HO.out, HA.out]
              refine held_norm (a' := ?_) ?_ ?_; rotate_left; · (go_simp; with_reducible rfl)
              refine held_pairO 15 25 (by kernel_rfl) rfl rfl (by rfl) (by rfl) (fun K hK => ?_) (fun K hK => ?_)
              · go_simp
                go_wp2_with (go_at_call 17; (with_reducible refine (HZ1.out _ _ _ hS hX).grows.mono ?_); rintro en wn ⟨rfl, hgn⟩)
                refine hK.out _ _ (hS.trans hgn) ?_
                clear hK K
                have h := st_6_8_13_14_15_18 wn b6 A8 c8 b13 A14 c14 b18 (hS.trans hgn) (own_grewE hY hgn)
                rw [HO.out, HA.out] at h; exact held_listO (by kernel_rfl) (by kernel_rfl) h
              · go_simp
                go_wp2_with fail
                refine hK.out _ _ (hS.alloc _) ?_
                clear hK K
                obtain ⟨Wn, hWn⟩ : ∃ Wn, Wn = W.alloc (.cells #[.int .i64 tm] 3) := ⟨_, rfl⟩
                obtain ⟨b25, hbn⟩ : ∃ bn, bn = W.heap.size := ⟨_, rfl⟩
                have hSn : Grew wo Wn := by rw [hWn]; exact hS.alloc _
                rw [← hWn, ← hbn]
                have h := st_6_8_13_14_18_25 Wn b6 A8 c8 b13 A14 c14 b18 b25 (hSn) (by rw [hWn]; exact hX.grew ((Grew.refl W).alloc _)) (by rw [hWn]; exact own_alloc hY _) (by rw [hWn]; exact Blok.new _ _ _ _ hbn) (fun z hz he => by have := own_lt hY z hz; omega)
                rw [HO.out, HA.out] at h; exact held_listO (by kernel_rfl) (by kernel_rfl) h
            have st_6_8_13_14_25 : ∀ (W : World) (b6 : Nat) (A8 : Option Addr) (c8 : Nat) (b13 : Nat) (A14 : Option Addr) (c14 : Nat) (b25 : Nat), (Grew wo W) → (Row W A14 (iV (out ++ [tq]))) → (Blok W b25 3 #[.int .i64 tm]) → wpAnyH Tryz.prog .any OPS Q0 (fun W => Grew wo W) 7 #[true, true, true, true, true, true, true, true, true, true, true, true, true, true, true, false, true, true, false, true, false, true, true, true, true, true, false, false, false, false] (((((A0.put (some 47) (.slice (some ⟨b6, 0, none⟩) 0 0)).put (some 49) (.slice A8 out.length c8)).put (some 54) (.slice (some ⟨b13, 0, none⟩) 1 1)).put (some 55) (.slice A14 (out.length + 1) c14)).put (some 66) (.slice (some ⟨b25, 0, none⟩) 1 1)) W := by
              intro W b6 A8 c8 b13 A14 c14 b25 hS hX h25
              rw [HO.out, HA.out]
              refine held_norm (a' := ?_) ?_ ?_; rotate_left; · (go_simp; with_reducible rfl)
              refine held_pairO 15 18 (by kernel_rfl) rfl rfl (by rfl) (by rfl) (fun K hK => ?_) (fun K hK => ?_)
              · go_simp
                go_wp2_with (go_at_call 17; (with_reducible refine (HZ1.out _ _ _ hS hX).grows.mono ?_); rintro en wn ⟨rfl, hgn⟩)
                refine hK.out _ _ (hS.trans hgn) ?_
                clear hK K
                have h := st_6_8_13_14_15_25 wn b6 A8 c8 b13 A14 c14 b25 (hS.trans hgn) (h25.grew hgn)
                rw [HO.out, HA.out] at h; exact held_listO (by kernel_rfl) (by kernel_rfl) h
              · go_simp
                go_wp2_with fail
                refine hK.out _ _ (hS.alloc _) ?_
                clear hK K
                obtain ⟨Wn, hWn⟩ : ∃ Wn, Wn = W.alloc (.cells #[] 3) := ⟨_, rfl⟩
                obtain ⟨b18, hbn⟩ : ∃ bn, bn = W.heap.size := ⟨_, rfl⟩
                have hSn : Grew wo Wn := by rw [hWn]; exact hS.alloc _
                rw [← hWn, ← hbn]
                have h := st_6_8_13_14_18_25 Wn b6 A8 c8 b13 A14 c14 b18 b25 (hSn) (by rw [hWn]; exact hX.grew ((Grew.refl W).alloc _)) (by rw [hWn]; exact own_empty W _ _ _ _ hbn (by rw [hbn]; exact hS.size)) (by rw [hWn]; exact h25.alloc _) (fun z hz he => by injection hz with hz; have h1 : b18 = z := hz; have := h25.lt; omega)
                rw [HO.out, HA.out] at h; exact held_listO (by kernel_rfl) (by kernel_rfl) h
            have st_6_8_13_18_25 : ∀ (W : World) (b6 : Nat) (A8 : Option Addr) (c8 : Nat) (b13 : Nat) (b18 : Nat) (b25 : Nat), (Grew wo W) → (W.ownsRow wo.heap.size 3 1 (Value.slice A8 out.length c8) out.length (iV out)) → (Blok W b13 3 #[.int .i64 tq]) → (W.ownsRow wo.heap.size 3 1 (Value.slice (some ⟨b18, 0, none⟩) 0 0) 0 []) → (Blok W b25 3 #[.int .i64 tm]) → (∀ z, (Value.slice A8 out.length c8).ownBlock = some z → z ≠ b13) → (∀ z, (Value.slice A8 out.length c8).ownBlock = some z → z ≠ b25) → (∀ z, (Value.slice A8 out.length c8).ownBlock = some z → (Value.slice (some ⟨b18, 0, none⟩) 0 0).ownBlock ≠ some z) → (∀ z, (Value.slice (some ⟨b18, 0, none⟩) 0 0).ownBlock = some z → z ≠ b25) → wpAnyH Tryz.prog .any OPS Q0 (fun W => Grew wo W) 7 #[true, true, true, true, true, true, true, true, true, true, true, true, true, true, false, false, true, true, true, true, false, true, true, true, true, true, false, false, false, false] (((((A0.put (some 47) (.slice (some ⟨b6, 0, none⟩) 0 0)).put (some 49) (.slice A8 out.length c8)).put (some 54) (.slice (some ⟨b13, 0, none⟩) 1 1)).put (some 59) (.slice (some ⟨b18, 0, none⟩) 0 0)).put (some 66) (.slice (some ⟨b25, 0, none⟩) 1 1)) W := by
              intro W b6 A8 c8 b13 b18 b25 hS hX h13 hY h25 dX13 dX25 dXY dY25
              rw [HO.out, HA.out]
              refine held_norm (a' := ?_) ?_ ?_; rotate_left; · (go_simp; with_reducible rfl)
              refine held_call 14 (by kernel_rfl) rfl (by rfl) (fun K hK => ?_)
              refine wp_appsO (.tmp 49) (.tmp 54) 31 3 1 rfl wo (.int .i64 0) 8 Tryz.underlying31 infoI rfl (by decide) (by decide) _ out.length (iV out) rfl hX _ 1 1 [.int .i64 tq] rfl rfl (row_blokO h13) (by simp [Value.oneCell']) (by omega) hS ?_
              intro A14 c14 wn hon hrn hgn hbn horn
              refine hK.out _ _ hgn ?_
              clear hK K
              have h := st_6_8_13_14_18_25 wn b6 A8 c8 b13 A14 c14 b18 b25 (hgn) (by rw [HNq.out]; exact hrn) (own_grown hY hbn (fun z hz h => dXY z h.symm hz)) (h25.grown hbn (fun h => dX25 _ h rfl)) (dY25)
              rw [HO.out, HA.out] at h; exact held_listO (by kernel_rfl) (by kernel_rfl) h
            have st_6_8_13_14 : ∀ (W : World) (b6 : Nat) (A8 : Option Addr) (c8 : Nat) (b13 : Nat) (A14 : Option Addr) (c14 : Nat), (Grew wo W) → (Row W A14 (iV (out ++ [tq]))) → wpAnyH Tryz.prog .any OPS Q0 (fun W => Grew wo W) 8 #[true, true, true, true, true, true, true, true, true, true, true, true, true, true, true, false, true, true, false, true, false, true, true, true, true, false, false, false, false, false] ((((A0.put (some 47) (.slice (some ⟨b6, 0, none⟩) 0 0)).put (some 49) (.slice A8 out.length c8)).put (some 54) (.slice (some ⟨b13, 0, none⟩) 1 1)).put (some 55) (.slice A14 (out.length + 1) c14)) W := by
              intro W b6 A8 c8 b13 A14 c14 hS hX
              rw [HO.out, HA.out]
              refine held_norm (a' := ?_) ?_ ?_; rotate_left; · (go_simp; with_reducible rfl)
              refine held_triO 15 18 25 (by kernel_rfl) rfl rfl rfl (by rfl) (by rfl) (by rfl) (fun K hK => ?_) (fun K hK => ?_) (fun K hK => ?_)
              · go_simp
                go_wp2_with (go_at_call 17; (with_reducible refine (HZ1.out _ _ _ hS hX).grows.mono ?_); rintro en wn ⟨rfl, hgn⟩)
                refine hK.out _ _ (hS.trans hgn) ?_
                clear hK K
                have h := st_6_8_13_14_15 wn b6 A8 c8 b13 A14 c14 (hS.trans hgn)
                rw [HO.out, HA.out] at h; exact held_listO (by kernel_rfl) (by kernel_rfl) h
              · go_simp
                go_wp2_with fail
                refine hK.out _ _ (hS.alloc _) ?_
                clear hK K
                obtain ⟨Wn, hWn⟩ : ∃ Wn, Wn = W.alloc (.cells #[] 3) := ⟨_, rfl⟩
                obtain ⟨b18, hbn⟩ : ∃ bn, bn = W.heap.size := ⟨_, rfl⟩
                have hSn : Grew wo Wn := by rw [hWn]; exact hS.alloc _
                rw [← hWn, ← hbn]
                have h := st_6_8_13_14_18 Wn b6 A8 c8 b13 A14 c14 b18 (hSn) (by rw [hWn]; exact hX.grew ((Grew.refl W).alloc _)) (by rw [hWn]; exact own_empty W _ _ _ _ hbn (by rw [hbn]; exact hS.size))
                rw [HO.out, HA.out] at h; exact held_listO (by kernel_rfl) (by kernel_rfl) h
              · go_simp
                go_wp2_with fail
                refine hK.out _ _ (hS.alloc _) ?_
                clear hK K
                obtain ⟨Wn, hWn⟩ : ∃ Wn, Wn = W.alloc (.cells #[.int .i64 tm] 3) := ⟨_, rfl⟩
                obtain ⟨b25, hbn⟩ : ∃ bn, bn = W.heap.size := ⟨_, rfl⟩
                have hSn : Grew wo Wn := by rw [hWn]; exact hS.alloc _
                rw [← hWn, ← hbn]
                have h := st_6_8_13_14_25 Wn b6 A8 c8 b13 A14 c14 b25 (hSn) (by rw [hWn]; exact hX.grew ((Grew.refl W).alloc _)) (by rw [hWn]; exact Blok.new _ _ _ _ hbn)
                rw [HO.out, HA.out] at h; exact held_listO (by kernel_rfl) (by kernel_rfl) h
            have st_6_8_13_18 : ∀ (W : World) (b6 : Nat) (A8 : Option Addr) (c8 : Nat) (b13 : Nat) (b18 : Nat), (Grew wo W) → (W.ownsRow wo.heap.size 3 1 (Value.slice A8 out.length c8) out.length (iV out)) → (Blok W b13 3 #[.int .i64 tq]) → (W.ownsRow wo.heap.size 3 1 (Value.slice (some ⟨b18, 0, none⟩) 0 0) 0 []) → (∀ z, (Value.slice A8 out.length c8).ownBlock = some z → z ≠ b13) → (∀ z, (Value.slice A8 out.length c8).ownBlock = some z → (Value.slice (some ⟨b18, 0, none⟩) 0 0).ownBlock ≠ some z) → wpAnyH Tryz.prog .any OPS Q0 (fun W => Grew wo W) 8 #[true, true, true, true, true, true, true, true, true, true, true, true, true, true, false, false, true, true, true, true, false, true, true, true, true, false, false, false, false, false] ((((A0.put (some 47) (.slice (some ⟨b6, 0, none⟩) 0 0)).put (some 49) (.slice A8 out.length c8)).put (some 54) (.slice (some ⟨b13, 0, none⟩) 1 1)).put (some 59) (.slice (some ⟨b18, 0, none⟩) 0 0)) W := by
              intro W b6 A8 c8 b13 b18 hS hX h13 hY dX13 dXY
              rw [HO.out, HA.out]
              refine held_norm (a' := ?_) ?_ ?_; rotate_left; · (go_simp; with_reducible rfl)
              refine held_pairO 14 25 (by kernel_rfl) rfl rfl (by rfl) (by rfl) (fun K hK => ?_) (fun K hK => ?_)
              · refine wp_appsO (.tmp 49) (.tmp 54) 31 3 1 rfl wo (.int .i64 0) 8 Tryz.underlying31 infoI rfl (by decide) (by decide) _ out.length (iV out) rfl hX _ 1 1 [.int .i64 tq] rfl rfl (row_blokO h13) (by simp [Value.oneCell']) (by omega) hS ?_
                intro A14 c14 wn hon hrn hgn hbn horn
                refine hK.out _ _ hgn ?_
                clear hK K
                have h := st_6_8_13_14_18 wn b6 A8 c8 b13 A14 c14 b18 (hgn) (by rw [HNq.out]; exact hrn) (own_grown hY hbn (fun z hz h => dXY z h.symm hz))
                rw [HO.out, HA.out] at h; exact held_listO (by kernel_rfl) (by kernel_rfl) h
              · go_simp
                go_wp2_with fail
                refine hK.out _ _ (hS.alloc _) ?_
                clear hK K
                obtain ⟨Wn, hWn⟩ : ∃ Wn, Wn = W.alloc (.cells #[.int .i64 tm] 3) := ⟨_, rfl⟩
                obtain ⟨b25, hbn⟩ : ∃ bn, bn = W.heap.size := ⟨_, rfl⟩
                have hSn : Grew wo Wn := by rw [hWn]; exact hS.alloc _
                rw [← hWn, ← hbn]
                have h := st_6_8_13_18_25 Wn b6 A8 c8 b13 b18 b25 (hSn) (by rw [hWn]; exact own_alloc hX _) (by rw [hWn]; exact h13.alloc _) (by rw [hWn]; exact own_alloc hY _) (by rw [hWn]; exact Blok.new _ _ _ _ hbn) (dX13) (fun z hz he => by have := own_lt hX z hz; omega) (dXY) (fun z hz he => by have := own_lt hY z hz; omega)
                rw [HO.out, HA.out] at h; exact held_listO (by kernel_rfl) (by kernel_rfl) h
            have st_6_8_13_25 : ∀ (W : World) (b6 : Nat) (A8 : Option Addr) (c8 : Nat) (b13 : Nat) (b25 : Nat), (Grew wo W) → (W.ownsRow wo.heap.size 3 1 (Value.slice A8 out.length c8) out.length (iV out)) → (Blok W b13 3 #[.int .i64 tq]) → (Blok W b25 3 #[.int .i64 tm]) → (∀ z, (Value.slice A8 out.length c8).ownBlock = some z → z ≠ b13) → (∀ z, (Value.slice A8 out.length c8).ownBlock = some z → z ≠ b25) → wpAnyH Tryz.prog .any OPS Q0 (fun W => Grew wo W) 8 #[true, true, true, true, true, true, true, true, true, true, true, true, true, true, false, false, true, true, false, true, false, true, true, true, true, true, false, false, false, false] ((((A0.put (some 47) (.slice (some ⟨b6, 0, none⟩) 0 0)).put (some 49) (.slice A8 out.length c8)).put (some 54) (.slice (some ⟨b13, 0, none⟩) 1 1)).put (some 66) (.slice (some ⟨b25, 0, none⟩) 1 1)) W := by
              intro W b6 A8 c8 b13 b25 hS hX h13 h25 dX13 dX25
              rw [HO.out, HA.out]
              refine held_norm (a' := ?_) ?_ ?_; rotate_left; · (go_simp; with_reducible rfl)
              refine held_pairO 14 18 (by kernel_rfl) rfl rfl (by rfl) (by rfl) (fun K hK => ?_) (fun K hK => ?_)
              · refine wp_appsO (.tmp 49) (.tmp 54) 31 3 1 rfl wo (.int .i64 0) 8 Tryz.underlying31 infoI rfl (by decide) (by decide) _ out.length (iV out) rfl hX _ 1 1 [.int .i64 tq] rfl rfl (row_blokO h13) (by simp [Value.oneCell']) (by omega) hS ?_
                intro A14 c14 wn hon hrn hgn hbn horn
                refine hK.out _ _ hgn ?_
                clear hK K
                have h := st_6_8_13_14_25 wn b6 A8 c8 b13 A14 c14 b25 (hgn) (by rw [HNq.out]; exact hrn) (h25.grown hbn (fun h => dX25 _ h rfl))
                rw [HO.out, HA.out] at h; exact held_listO (by kernel_rfl) (by kernel_rfl) h
              · go_simp
                go_wp2_with fail
                refine hK.out _ _ (hS.alloc _) ?_
                clear hK K
                obtain ⟨Wn, hWn⟩ : ∃ Wn, Wn = W.alloc (.cells #[] 3) := ⟨_, rfl⟩
                obtain ⟨b18, hbn⟩ : ∃ bn, bn = W.heap.size := ⟨_, rfl⟩
                have hSn : Grew wo Wn := by rw [hWn]; exact hS.alloc _
                rw [← hWn, ← hbn]
                have h := st_6_8_13_18_25 Wn b6 A8 c8 b13 b18 b25 (hSn) (by rw [hWn]; exact own_alloc hX _) (by rw [hWn]; exact h13.alloc _) (by rw [hWn]; exact own_empty W _ _ _ _ hbn (by rw [hbn]; exact hS.size)) (by rw [hWn]; exact h25.alloc _) (dX13) (dX25) (fun z hz he => by injection he with he; have h1 : b18 = z := he; have := own_lt hX z hz; omega) (fun z hz he => by injection hz with hz; have h1 : b18 = z := hz; have := h25.lt; omega)
                rw [HO.out, HA.out] at h; exact held_listO (by kernel_rfl) (by kernel_rfl) h
            have st_6_8_18_25 : ∀ (W : World) (b6 : Nat) (A8 : Option Addr) (c8 : Nat) (b18 : Nat) (b25 : Nat), (Grew wo W) → (W.ownsRow wo.heap.size 3 1 (Value.slice A8 out.length c8) out.length (iV out)) → (W.ownsRow wo.heap.size 3 1 (Value.slice (some ⟨b18, 0, none⟩) 0 0) 0 []) → (Blok W b25 3 #[.int .i64 tm]) → (∀ z, (Value.slice A8 out.length c8).ownBlock = some z → z ≠ b25) → (∀ z, (Value.slice A8 out.length c8).ownBlock = some z → (Value.slice (some ⟨b18, 0, none⟩) 0 0).ownBlock ≠ some z) → (∀ z, (Value.slice (some ⟨b18, 0, none⟩) 0 0).ownBlock = some z → z ≠ b25) → wpAnyH Tryz.prog .any OPS Q0 (fun W => Grew wo W) 8 #[true, true, true, true, true, true, true, true, true, true, true, true, true, false, false, false, true, true, true, true, false, true, true, true, true, true, false, false, false, false] ((((A0.put (some 47) (.slice (some ⟨b6, 0, none⟩) 0 0)).put (some 49) (.slice A8 out.length c8)).put (some 59) (.slice (some ⟨b18, 0, none⟩) 0 0)).put (some 66) (.slice (some ⟨b25, 0, none⟩) 1 1)) W := by
              intro W b6 A8 c8 b18 b25 hS hX hY h25 dX25 dXY dY25
              rw [HO.out, HA.out]
              refine held_norm (a' := ?_) ?_ ?_; rotate_left; · (go_simp; with_reducible rfl)
              refine held_call 13 (by kernel_rfl) rfl (by rfl) (fun K hK => ?_)
              go_simp
              go_wp2_with fail
              refine hK.out _ _ (hS.alloc _) ?_
              clear hK K
              obtain ⟨Wn, hWn⟩ : ∃ Wn, Wn = W.alloc (.cells #[.int .i64 tq] 3) := ⟨_, rfl⟩
              obtain ⟨b13, hbn⟩ : ∃ bn, bn = W.heap.size := ⟨_, rfl⟩
              have hSn : Grew wo Wn := by rw [hWn]; exact hS.alloc _
              rw [← hWn, ← hbn]
              have h := st_6_8_13_18_25 Wn b6 A8 c8 b13 b18 b25 (hSn) (by rw [hWn]; exact own_alloc hX _) (by rw [hWn]; exact Blok.new _ _ _ _ hbn) (by rw [hWn]; exact own_alloc hY _) (by rw [hWn]; exact h25.alloc _) (fun z hz he => by have := own_lt hX z hz; omega) (dX25) (dXY) (dY25)
              rw [HO.out, HA.out] at h; exact held_listO (by kernel_rfl) (by kernel_rfl) h
            have st_6_13_18_25 : ∀ (W : World) (b6 : Nat) (b13 : Nat) (b18 : Nat) (b25 : Nat), (Grew wo W) → (W.ownsRow wo.heap.size 3 1 (Value.slice (some ⟨b6, 0, none⟩) 0 0) 0 []) → (Blok W b13 3 #[.int .i64 tq]) → (W.ownsRow wo.heap.size 3 1 (Value.slice (some ⟨b18, 0, none⟩) 0 0) 0 []) → (Blok W b25 3 #[.int .i64 tm]) → (∀ z, (Value.slice (some ⟨b6, 0, none⟩) 0 0).ownBlock = some z → z ≠ b13) → (∀ z, (Value.slice (some ⟨b6, 0, none⟩) 0 0).ownBlock = some z → z ≠ b25) → (∀ z, (Value.slice (some ⟨b6, 0, none⟩) 0 0).ownBlock = some z → (Value.slice (some ⟨b18, 0, none⟩) 0 0).ownBlock ≠ some z) → (∀ z, (Value.slice (some ⟨b18, 0, none⟩) 0 0).ownBlock = some z → z ≠ b25) → wpAnyH Tryz.prog .any OPS Q0 (fun W => Grew wo W) 8 #[true, true, true, true, true, true, true, true, false, true, true, true, true, true, false, false, true, true, true, true, false, true, true, true, true, true, false, false, false, false] ((((A0.put (some 47) (.slice (some ⟨b6, 0, none⟩) 0 0)).put (some 54) (.slice (some ⟨b13, 0, none⟩) 1 1)).put (some 59) (.slice (some ⟨b18, 0, none⟩) 0 0)).put (some 66) (.slice (some ⟨b25, 0, none⟩) 1 1)) W := by
              intro W b6 b13 b18 b25 hS hX h13 hY h25 dX13 dX25 dXY dY25
              rw [HO.out, HA.out]
              refine held_norm (a' := ?_) ?_ ?_; rotate_left; · (go_simp; with_reducible rfl)
              refine held_call 8 (by kernel_rfl) rfl (by rfl) (fun K hK => ?_)
              refine wp_appsO (.tmp 47) (.tmp 48) 31 3 1 rfl wo (.int .i64 0) 8 Tryz.underlying31 infoI rfl (by decide) (by decide) _ 0 [] rfl hX _ out.length co (iV out) rfl HL1.out (HRo.out _ hS) H11.out (by omega) hS ?_
              intro A8 c8 wn hon hrn hgn hbn horn
              rw [Nat.zero_add, List.nil_append] at hon
              rw [Nat.zero_add] at horn
              rw [Nat.zero_add]
              refine hK.out _ _ hgn ?_
              clear hK K
              have h := st_6_8_13_18_25 wn b6 A8 c8 b13 b18 b25 (hgn) (hon) (h13.grown hbn (fun h => dX13 _ h rfl)) (own_grown hY hbn (fun z hz h => dXY z h.symm hz)) (h25.grown hbn (fun h => dX25 _ h rfl)) (dis_app horn dX13 h13.lt) (dis_app horn dX25 h25.lt) (dis_app2 horn dXY (own_lt hY)) (dY25)
              rw [HO.out, HA.out] at h; exact held_listO (by kernel_rfl) (by kernel_rfl) h
            have st_6_8_13 : ∀ (W : World) (b6 : Nat) (A8 : Option Addr) (c8 : Nat) (b13 : Nat), (Grew wo W) → (W.ownsRow wo.heap.size 3 1 (Value.slice A8 out.length c8) out.length (iV out)) → (Blok W b13 3 #[.int .i64 tq]) → (∀ z, (Value.slice A8 out.length c8).ownBlock = some z → z ≠ b13) → wpAnyH Tryz.prog .any OPS Q0 (fun W => Grew wo W) 9 #[true, true, true, true, true, true, true, true, true, true, true, true, true, true, false, false, true, true, false, true, false, true, true, true, true, false, false, false, false, false] (((A0.put (some 47) (.slice (some ⟨b6, 0, none⟩) 0 0)).put (some 49) (.slice A8 out.length c8)).put (some 54) (.slice (some ⟨b13, 0, none⟩) 1 1)) W := by
              intro W b6 A8 c8 b13 hS hX h13 dX13
              rw [HO.out, HA.out]
              refine held_norm (a' := ?_) ?_ ?_; rotate_left; · (go_simp; with_reducible rfl)
              refine held_triO 14 18 25 (by kernel_rfl) rfl rfl rfl (by rfl) (by rfl) (by rfl) (fun K hK => ?_) (fun K hK => ?_) (fun K hK => ?_)
              · refine wp_appsO (.tmp 49) (.tmp 54) 31 3 1 rfl wo (.int .i64 0) 8 Tryz.underlying31 infoI rfl (by decide) (by decide) _ out.length (iV out) rfl hX _ 1 1 [.int .i64 tq] rfl rfl (row_blokO h13) (by simp [Value.oneCell']) (by omega) hS ?_
                intro A14 c14 wn hon hrn hgn hbn horn
                refine hK.out _ _ hgn ?_
                clear hK K
                have h := st_6_8_13_14 wn b6 A8 c8 b13 A14 c14 (hgn) (by rw [HNq.out]; exact hrn)
                rw [HO.out, HA.out] at h; exact held_listO (by kernel_rfl) (by kernel_rfl) h
              · go_simp
                go_wp2_with fail
                refine hK.out _ _ (hS.alloc _) ?_
                clear hK K
                obtain ⟨Wn, hWn⟩ : ∃ Wn, Wn = W.alloc (.cells #[] 3) := ⟨_, rfl⟩
                obtain ⟨b18, hbn⟩ : ∃ bn, bn = W.heap.size := ⟨_, rfl⟩
                have hSn : Grew wo Wn := by rw [hWn]; exact hS.alloc _
                rw [← hWn, ← hbn]
                have h := st_6_8_13_18 Wn b6 A8 c8 b13 b18 (hSn) (by rw [hWn]; exact own_alloc hX _) (by rw [hWn]; exact h13.alloc _) (by rw [hWn]; exact own_empty W _ _ _ _ hbn (by rw [hbn]; exact hS.size)) (dX13) (fun z hz he => by injection he with he; have h1 : b18 = z := he; have := own_lt hX z hz; omega)
                rw [HO.out, HA.out] at h; exact held_listO (by kernel_rfl) (by kernel_rfl) h
              · go_simp
                go_wp2_with fail
                refine hK.out _ _ (hS.alloc _) ?_
                clear hK K
                obtain ⟨Wn, hWn⟩ : ∃ Wn, Wn = W.alloc (.cells #[.int .i64 tm] 3) := ⟨_, rfl⟩
                obtain ⟨b25, hbn⟩ : ∃ bn, bn = W.heap.size := ⟨_, rfl⟩
                have hSn : Grew wo Wn := by rw [hWn]; exact hS.alloc _
                rw [← hWn, ← hbn]
                have h := st_6_8_13_25 Wn b6 A8 c8 b13 b25 (hSn) (by rw [hWn]; exact own_alloc hX _) (by rw [hWn]; exact h13.alloc _) (by rw [hWn]; exact Blok.new _ _ _ _ hbn) (dX13) (fun z hz he => by have := own_lt hX z hz; omega)
                rw [HO.out, HA.out] at h; exact held_listO (by kernel_rfl) (by kernel_rfl) h
            have st_6_8_18 : ∀ (W : World) (b6 : Nat) (A8 : Option Addr) (c8 : Nat) (b18 : Nat), (Grew wo W) → (W.ownsRow wo.heap.size 3 1 (Value.slice A8 out.length c8) out.length (iV out)) → (W.ownsRow wo.heap.size 3 1 (Value.slice (some ⟨b18, 0, none⟩) 0 0) 0 []) → (∀ z, (Value.slice A8 out.length c8).ownBlock = some z → (Value.slice (some ⟨b18, 0, none⟩) 0 0).ownBlock ≠ some z) → wpAnyH Tryz.prog .any OPS Q0 (fun W => Grew wo W) 9 #[true, true, true, true, true, true, true, true, true, true, true, true, true, false, false, false, true, true, true, true, false, true, true, true, true, false, false, false, false, false] (((A0.put (some 47) (.slice (some ⟨b6, 0, none⟩) 0 0)).put (some 49) (.slice A8 out.length c8)).put (some 59) (.slice (some ⟨b18, 0, none⟩) 0 0)) W := by
              intro W b6 A8 c8 b18 hS hX hY dXY
              rw [HO.out, HA.out]
              refine held_norm (a' := ?_) ?_ ?_; rotate_left; · (go_simp; with_reducible rfl)
              refine held_pairO 13 25 (by kernel_rfl) rfl rfl (by rfl) (by rfl) (fun K hK => ?_) (fun K hK => ?_)
              · go_simp
                go_wp2_with fail
                refine hK.out _ _ (hS.alloc _) ?_
                clear hK K
                obtain ⟨Wn, hWn⟩ : ∃ Wn, Wn = W.alloc (.cells #[.int .i64 tq] 3) := ⟨_, rfl⟩
                obtain ⟨b13, hbn⟩ : ∃ bn, bn = W.heap.size := ⟨_, rfl⟩
                have hSn : Grew wo Wn := by rw [hWn]; exact hS.alloc _
                rw [← hWn, ← hbn]
                have h := st_6_8_13_18 Wn b6 A8 c8 b13 b18 (hSn) (by rw [hWn]; exact own_alloc hX _) (by rw [hWn]; exact Blok.new _ _ _ _ hbn) (by rw [hWn]; exact own_alloc hY _) (fun z hz he => by have := own_lt hX z hz; omega) (dXY)
                rw [HO.out, HA.out] at h; exact held_listO (by kernel_rfl) (by kernel_rfl) h
              · go_simp
                go_wp2_with fail
                refine hK.out _ _ (hS.alloc _) ?_
                clear hK K
                obtain ⟨Wn, hWn⟩ : ∃ Wn, Wn = W.alloc (.cells #[.int .i64 tm] 3) := ⟨_, rfl⟩
                obtain ⟨b25, hbn⟩ : ∃ bn, bn = W.heap.size := ⟨_, rfl⟩
                have hSn : Grew wo Wn := by rw [hWn]; exact hS.alloc _
                rw [← hWn, ← hbn]
                have h := st_6_8_18_25 Wn b6 A8 c8 b18 b25 (hSn) (by rw [hWn]; exact own_alloc hX _) (by rw [hWn]; exact own_alloc hY _) (by rw [hWn]; exact Blok.new _ _ _ _ hbn) (fun z hz he => by have := own_lt hX z hz; omega) (dXY) (fun z hz he => by have := own_lt hY z hz; omega)
                rw [HO.out, HA.out] at h; exact held_listO (by kernel_rfl) (by kernel_rfl) h
            have st_6_8_25 : ∀ (W : World) (b6 : Nat) (A8 : Option Addr) (c8 : Nat) (b25 : Nat), (Grew wo W) → (W.ownsRow wo.heap.size 3 1 (Value.slice A8 out.length c8) out.length (iV out)) → (Blok W b25 3 #[.int .i64 tm]) → (∀ z, (Value.slice A8 out.length c8).ownBlock = some z → z ≠ b25) → wpAnyH Tryz.prog .any OPS Q0 (fun W => Grew wo W) 9 #[true, true, true, true, true, true, true, true, true, true, true, true, true, false, false, false, true, true, false, true, false, true, true, true, true, true, false, false, false, false] (((A0.put (some 47) (.slice (some ⟨b6, 0, none⟩) 0 0)).put (some 49) (.slice A8 out.length c8)).put (some 66) (.slice (some ⟨b25, 0, none⟩) 1 1)) W := by
              intro W b6 A8 c8 b25 hS hX h25 dX25
              rw [HO.out, HA.out]
              refine held_norm (a' := ?_) ?_ ?_; rotate_left; · (go_simp; with_reducible rfl)
              refine held_pairO 13 18 (by kernel_rfl) rfl rfl (by rfl) (by rfl) (fun K hK => ?_) (fun K hK => ?_)
              · go_simp
                go_wp2_with fail
                refine hK.out _ _ (hS.alloc _) ?_
                clear hK K
                obtain ⟨Wn, hWn⟩ : ∃ Wn, Wn = W.alloc (.cells #[.int .i64 tq] 3) := ⟨_, rfl⟩
                obtain ⟨b13, hbn⟩ : ∃ bn, bn = W.heap.size := ⟨_, rfl⟩
                have hSn : Grew wo Wn := by rw [hWn]; exact hS.alloc _
                rw [← hWn, ← hbn]
                have h := st_6_8_13_25 Wn b6 A8 c8 b13 b25 (hSn) (by rw [hWn]; exact own_alloc hX _) (by rw [hWn]; exact Blok.new _ _ _ _ hbn) (by rw [hWn]; exact h25.alloc _) (fun z hz he => by have := own_lt hX z hz; omega) (dX25)
                rw [HO.out, HA.out] at h; exact held_listO (by kernel_rfl) (by kernel_rfl) h
              · go_simp
                go_wp2_with fail
                refine hK.out _ _ (hS.alloc _) ?_
                clear hK K
                obtain ⟨Wn, hWn⟩ : ∃ Wn, Wn = W.alloc (.cells #[] 3) := ⟨_, rfl⟩
                obtain ⟨b18, hbn⟩ : ∃ bn, bn = W.heap.size := ⟨_, rfl⟩
                have hSn : Grew wo Wn := by rw [hWn]; exact hS.alloc _
                rw [← hWn, ← hbn]
                have h := st_6_8_18_25 Wn b6 A8 c8 b18 b25 (hSn) (by rw [hWn]; exact own_alloc hX _) (by rw [hWn]; exact own_empty W _ _ _ _ hbn (by rw [hbn]; exact hS.size)) (by rw [hWn]; exact h25.alloc _) (dX25) (fun z hz he => by injection he with he; have h1 : b18 = z := he; have := own_lt hX z hz; omega) (fun z hz he => by injection hz with hz; have h1 : b18 = z := hz; have := h25.lt; omega)
                rw [HO.out, HA.out] at h; exact held_listO (by kernel_rfl) (by kernel_rfl) h
            have st_6_13_18 : ∀ (W : World) (b6 : Nat) (b13 : Nat) (b18 : Nat), (Grew wo W) → (W.ownsRow wo.heap.size 3 1 (Value.slice (some ⟨b6, 0, none⟩) 0 0) 0 []) → (Blok W b13 3 #[.int .i64 tq]) → (W.ownsRow wo.heap.size 3 1 (Value.slice (some ⟨b18, 0, none⟩) 0 0) 0 []) → (∀ z, (Value.slice (some ⟨b6, 0, none⟩) 0 0).ownBlock = some z → z ≠ b13) → (∀ z, (Value.slice (some ⟨b6, 0, none⟩) 0 0).ownBlock = some z → (Value.slice (some ⟨b18, 0, none⟩) 0 0).ownBlock ≠ some z) → wpAnyH Tryz.prog .any OPS Q0 (fun W => Grew wo W) 9 #[true, true, true, true, true, true, true, true, false, true, true, true, true, true, false, false, true, true, true, true, false, true, true, true, true, false, false, false, false, false] (((A0.put (some 47) (.slice (some ⟨b6, 0, none⟩) 0 0)).put (some 54) (.slice (some ⟨b13, 0, none⟩) 1 1)).put (some 59) (.slice (some ⟨b18, 0, none⟩) 0 0)) W := by
              intro W b6 b13 b18 hS hX h13 hY dX13 dXY
              rw [HO.out, HA.out]
              refine held_norm (a' := ?_) ?_ ?_; rotate_left; · (go_simp; with_reducible rfl)
              refine held_pairO 8 25 (by kernel_rfl) rfl rfl (by rfl) (by rfl) (fun K hK => ?_) (fun K hK => ?_)
              · refine wp_appsO (.tmp 47) (.tmp 48) 31 3 1 rfl wo (.int .i64 0) 8 Tryz.underlying31 infoI rfl (by decide) (by decide) _ 0 [] rfl hX _ out.length co (iV out) rfl HL1.out (HRo.out _ hS) H11.out (by omega) hS ?_
                intro A8 c8 wn hon hrn hgn hbn horn
                rw [Nat.zero_add, List.nil_append] at hon
                rw [Nat.zero_add] at horn
                rw [Nat.zero_add]
                refine hK.out _ _ hgn ?_
                clear hK K
                have h := st_6_8_13_18 wn b6 A8 c8 b13 b18 (hgn) (hon) (h13.grown hbn (fun h => dX13 _ h rfl)) (own_grown hY hbn (fun z hz h => dXY z h.symm hz)) (dis_app horn dX13 h13.lt) (dis_app2 horn dXY (own_lt hY))
                rw [HO.out, HA.out] at h; exact held_listO (by kernel_rfl) (by kernel_rfl) h
              · go_simp
                go_wp2_with fail
                refine hK.out _ _ (hS.alloc _) ?_
                clear hK K
                obtain ⟨Wn, hWn⟩ : ∃ Wn, Wn = W.alloc (.cells #[.int .i64 tm] 3) := ⟨_, rfl⟩
                obtain ⟨b25, hbn⟩ : ∃ bn, bn = W.heap.size := ⟨_, rfl⟩
                have hSn : Grew wo Wn := by rw [hWn]; exact hS.alloc _
                rw [← hWn, ← hbn]
                have h := st_6_13_18_25 Wn b6 b13 b18 b25 (hSn) (by rw [hWn]; exact own_alloc hX _) (by rw [hWn]; exact h13.alloc _) (by rw [hWn]; exact own_alloc hY _) (by rw [hWn]; exact Blok.new _ _ _ _ hbn) (dX13) (fun z hz he => by have := own_lt hX z hz; omega) (dXY) (fun z hz he => by have := own_lt hY z hz; omega)
                rw [HO.out, HA.out] at h; exact held_listO (by kernel_rfl) (by kernel_rfl) h
            have st_6_13_25 : ∀ (W : World) (b6 : Nat) (b13 : Nat) (b25 : Nat), (Grew wo W) → (W.ownsRow wo.heap.size 3 1 (Value.slice (some ⟨b6, 0, none⟩) 0 0) 0 []) → (Blok W b13 3 #[.int .i64 tq]) → (Blok W b25 3 #[.int .i64 tm]) → (∀ z, (Value.slice (some ⟨b6, 0, none⟩) 0 0).ownBlock = some z → z ≠ b13) → (∀ z, (Value.slice (some ⟨b6, 0, none⟩) 0 0).ownBlock = some z → z ≠ b25) → wpAnyH Tryz.prog .any OPS Q0 (fun W => Grew wo W) 9 #[true, true, true, true, true, true, true, true, false, true, true, true, true, true, false, false, true, true, false, true, false, true, true, true, true, true, false, false, false, false] (((A0.put (some 47) (.slice (some ⟨b6, 0, none⟩) 0 0)).put (some 54) (.slice (some ⟨b13, 0, none⟩) 1 1)).put (some 66) (.slice (some ⟨b25, 0, none⟩) 1 1)) W := by
              intro W b6 b13 b25 hS hX h13 h25 dX13 dX25
              rw [HO.out, HA.out]
              refine held_norm (a' := ?_) ?_ ?_; rotate_left; · (go_simp; with_reducible rfl)
              refine held_pairO 8 18 (by kernel_rfl) rfl rfl (by rfl) (by rfl) (fun K hK => ?_) (fun K hK => ?_)
              · refine wp_appsO (.tmp 47) (.tmp 48) 31 3 1 rfl wo (.int .i64 0) 8 Tryz.underlying31 infoI rfl (by decide) (by decide) _ 0 [] rfl hX _ out.length co (iV out) rfl HL1.out (HRo.out _ hS) H11.out (by omega) hS ?_
                intro A8 c8 wn hon hrn hgn hbn horn
                rw [Nat.zero_add, List.nil_append] at hon
                rw [Nat.zero_add] at horn
                rw [Nat.zero_add]
                refine hK.out _ _ hgn ?_
                clear hK K
                have h := st_6_8_13_25 wn b6 A8 c8 b13 b25 (hgn) (hon) (h13.grown hbn (fun h => dX13 _ h rfl)) (h25.grown hbn (fun h => dX25 _ h rfl)) (dis_app horn dX13 h13.lt) (dis_app horn dX25 h25.lt)
                rw [HO.out, HA.out] at h; exact held_listO (by kernel_rfl) (by kernel_rfl) h
              · go_simp
                go_wp2_with fail
                refine hK.out _ _ (hS.alloc _) ?_
                clear hK K
                obtain ⟨Wn, hWn⟩ : ∃ Wn, Wn = W.alloc (.cells #[] 3) := ⟨_, rfl⟩
                obtain ⟨b18, hbn⟩ : ∃ bn, bn = W.heap.size := ⟨_, rfl⟩
                have hSn : Grew wo Wn := by rw [hWn]; exact hS.alloc _
                rw [← hWn, ← hbn]
                have h := st_6_13_18_25 Wn b6 b13 b18 b25 (hSn) (by rw [hWn]; exact own_alloc hX _) (by rw [hWn]; exact h13.alloc _) (by rw [hWn]; exact own_empty W _ _ _ _ hbn (by rw [hbn]; exact hS.size)) (by rw [hWn]; exact h25.alloc _) (dX13) (dX25) (fun z hz he => by injection he with he; have h1 : b18 = z := he; have := own_lt hX z hz; omega) (fun z hz he => by injection hz with hz; have h1 : b18 = z := hz; have := h25.lt; omega)
                rw [HO.out, HA.out] at h; exact held_listO (by kernel_rfl) (by kernel_rfl) h
            have st_6_18_25 : ∀ (W : World) (b6 : Nat) (b18 : Nat) (b25 : Nat), (Grew wo W) → (W.ownsRow wo.heap.size 3 1 (Value.slice (some ⟨b6, 0, none⟩) 0 0) 0 []) → (W.ownsRow wo.heap.size 3 1 (Value.slice (some ⟨b18, 0, none⟩) 0 0) 0 []) → (Blok W b25 3 #[.int .i64 tm]) → (∀ z, (Value.slice (some ⟨b6, 0, none⟩) 0 0).ownBlock = some z → z ≠ b25) → (∀ z, (Value.slice (some ⟨b6, 0, none⟩) 0 0).ownBlock = some z → (Value.slice (some ⟨b18, 0, none⟩) 0 0).ownBlock ≠ some z) → (∀ z, (Value.slice (some ⟨b18, 0, none⟩) 0 0).ownBlock = some z → z ≠ b25) → wpAnyH Tryz.prog .any OPS Q0 (fun W => Grew wo W) 9 #[true, true, true, true, true, true, true, true, false, true, true, true, true, false, false, false, true, true, true, true, false, true, true, true, true, true, false, false, false, false] (((A0.put (some 47) (.slice (some ⟨b6, 0, none⟩) 0 0)).put (some 59) (.slice (some ⟨b18, 0, none⟩) 0 0)).put (some 66) (.slice (some ⟨b25, 0, none⟩) 1 1)) W := by
              intro W b6 b18 b25 hS hX hY h25 dX25 dXY dY25
              rw [HO.out, HA.out]
              refine held_norm (a' := ?_) ?_ ?_; rotate_left; · (go_simp; with_reducible rfl)
              refine held_pairO 8 13 (by kernel_rfl) rfl rfl (by rfl) (by rfl) (fun K hK => ?_) (fun K hK => ?_)
              · refine wp_appsO (.tmp 47) (.tmp 48) 31 3 1 rfl wo (.int .i64 0) 8 Tryz.underlying31 infoI rfl (by decide) (by decide) _ 0 [] rfl hX _ out.length co (iV out) rfl HL1.out (HRo.out _ hS) H11.out (by omega) hS ?_
                intro A8 c8 wn hon hrn hgn hbn horn
                rw [Nat.zero_add, List.nil_append] at hon
                rw [Nat.zero_add] at horn
                rw [Nat.zero_add]
                refine hK.out _ _ hgn ?_
                clear hK K
                have h := st_6_8_18_25 wn b6 A8 c8 b18 b25 (hgn) (hon) (own_grown hY hbn (fun z hz h => dXY z h.symm hz)) (h25.grown hbn (fun h => dX25 _ h rfl)) (dis_app horn dX25 h25.lt) (dis_app2 horn dXY (own_lt hY)) (dY25)
                rw [HO.out, HA.out] at h; exact held_listO (by kernel_rfl) (by kernel_rfl) h
              · go_simp
                go_wp2_with fail
                refine hK.out _ _ (hS.alloc _) ?_
                clear hK K
                obtain ⟨Wn, hWn⟩ : ∃ Wn, Wn = W.alloc (.cells #[.int .i64 tq] 3) := ⟨_, rfl⟩
                obtain ⟨b13, hbn⟩ : ∃ bn, bn = W.heap.size := ⟨_, rfl⟩
                have hSn : Grew wo Wn := by rw [hWn]; exact hS.alloc _
                rw [← hWn, ← hbn]
                have h := st_6_13_18_25 Wn b6 b13 b18 b25 (hSn) (by rw [hWn]; exact own_alloc hX _) (by rw [hWn]; exact Blok.new _ _ _ _ hbn) (by rw [hWn]; exact own_alloc hY _) (by rw [hWn]; exact h25.alloc _) (fun z hz he => by have := own_lt hX z hz; omega) (dX25) (dXY) (dY25)
                rw [HO.out, HA.out] at h; exact held_listO (by kernel_rfl) (by kernel_rfl) h
            have st_13_18_25 : ∀ (W : World) (b13 : Nat) (b18 : Nat) (b25 : Nat), (Grew wo W) → (Blok W b13 3 #[.int .i64 tq]) → (W.ownsRow wo.heap.size 3 1 (Value.slice (some ⟨b18, 0, none⟩) 0 0) 0 []) → (Blok W b25 3 #[.int .i64 tm]) → (∀ z, (Value.slice (some ⟨b18, 0, none⟩) 0 0).ownBlock = some z → z ≠ b25) → wpAnyH Tryz.prog .any OPS Q0 (fun W => Grew wo W) 9 #[true, true, true, true, true, true, false, true, false, true, true, true, true, true, false, false, true, true, true, true, false, true, true, true, true, true, false, false, false, false] (((A0.put (some 54) (.slice (some ⟨b13, 0, none⟩) 1 1)).put (some 59) (.slice (some ⟨b18, 0, none⟩) 0 0)).put (some 66) (.slice (some ⟨b25, 0, none⟩) 1 1)) W := by
              intro W b13 b18 b25 hS h13 hY h25 dY25
              rw [HO.out, HA.out]
              refine held_norm (a' := ?_) ?_ ?_; rotate_left; · (go_simp; with_reducible rfl)
              refine held_call 6 (by kernel_rfl) rfl (by rfl) (fun K hK => ?_)
              go_simp
              go_wp2_with fail
              refine hK.out _ _ (hS.alloc _) ?_
              clear hK K
              obtain ⟨Wn, hWn⟩ : ∃ Wn, Wn = W.alloc (.cells #[] 3) := ⟨_, rfl⟩
              obtain ⟨b6, hbn⟩ : ∃ bn, bn = W.heap.size := ⟨_, rfl⟩
              have hSn : Grew wo Wn := by rw [hWn]; exact hS.alloc _
              rw [← hWn, ← hbn]
              have h := st_6_13_18_25 Wn b6 b13 b18 b25 (hSn) (by rw [hWn]; exact own_empty W _ _ _ _ hbn (by rw [hbn]; exact hS.size)) (by rw [hWn]; exact h13.alloc _) (by rw [hWn]; exact own_alloc hY _) (by rw [hWn]; exact h25.alloc _) (fun z hz he => by injection hz with hz; have h1 : b6 = z := hz; have := h13.lt; omega) (fun z hz he => by injection hz with hz; have h1 : b6 = z := hz; have := h25.lt; omega) (fun z hz he => by injection hz with hz; have h1 : b6 = z := hz; have := own_lt hY z he; omega) (dY25)
              rw [HO.out, HA.out] at h; exact held_listO (by kernel_rfl) (by kernel_rfl) h
            have st_6_8 : ∀ (W : World) (b6 : Nat) (A8 : Option Addr) (c8 : Nat), (Grew wo W) → (W.ownsRow wo.heap.size 3 1 (Value.slice A8 out.length c8) out.length (iV out)) → wpAnyH Tryz.prog .any OPS Q0 (fun W => Grew wo W) 10 #[true, true, true, true, true, true, true, true, true, true, true, true, true, false, false, false, true, true, false, true, false, true, true, true, true, false, false, false, false, false] ((A0.put (some 47) (.slice (some ⟨b6, 0, none⟩) 0 0)).put (some 49) (.slice A8 out.length c8)) W := by
              intro W b6 A8 c8 hS hX
              rw [HO.out, HA.out]
              refine held_norm (a' := ?_) ?_ ?_; rotate_left; · (go_simp; with_reducible rfl)
              refine held_triO 13 18 25 (by kernel_rfl) rfl rfl rfl (by rfl) (by rfl) (by rfl) (fun K hK => ?_) (fun K hK => ?_) (fun K hK => ?_)
              · go_simp
                go_wp2_with fail
                refine hK.out _ _ (hS.alloc _) ?_
                clear hK K
                obtain ⟨Wn, hWn⟩ : ∃ Wn, Wn = W.alloc (.cells #[.int .i64 tq] 3) := ⟨_, rfl⟩
                obtain ⟨b13, hbn⟩ : ∃ bn, bn = W.heap.size := ⟨_, rfl⟩
                have hSn : Grew wo Wn := by rw [hWn]; exact hS.alloc _
                rw [← hWn, ← hbn]
                have h := st_6_8_13 Wn b6 A8 c8 b13 (hSn) (by rw [hWn]; exact own_alloc hX _) (by rw [hWn]; exact Blok.new _ _ _ _ hbn) (fun z hz he => by have := own_lt hX z hz; omega)
                rw [HO.out, HA.out] at h; exact held_listO (by kernel_rfl) (by kernel_rfl) h
              · go_simp
                go_wp2_with fail
                refine hK.out _ _ (hS.alloc _) ?_
                clear hK K
                obtain ⟨Wn, hWn⟩ : ∃ Wn, Wn = W.alloc (.cells #[] 3) := ⟨_, rfl⟩
                obtain ⟨b18, hbn⟩ : ∃ bn, bn = W.heap.size := ⟨_, rfl⟩
                have hSn : Grew wo Wn := by rw [hWn]; exact hS.alloc _
                rw [← hWn, ← hbn]
                have h := st_6_8_18 Wn b6 A8 c8 b18 (hSn) (by rw [hWn]; exact own_alloc hX _) (by rw [hWn]; exact own_empty W _ _ _ _ hbn (by rw [hbn]; exact hS.size)) (fun z hz he => by injection he with he; have h1 : b18 = z := he; have := own_lt hX z hz; omega)
                rw [HO.out, HA.out] at h; exact held_listO (by kernel_rfl) (by kernel_rfl) h
              · go_simp
                go_wp2_with fail
                refine hK.out _ _ (hS.alloc _) ?_
                clear hK K
                obtain ⟨Wn, hWn⟩ : ∃ Wn, Wn = W.alloc (.cells #[.int .i64 tm] 3) := ⟨_, rfl⟩
                obtain ⟨b25, hbn⟩ : ∃ bn, bn = W.heap.size := ⟨_, rfl⟩
                have hSn : Grew wo Wn := by rw [hWn]; exact hS.alloc _
                rw [← hWn, ← hbn]
                have h := st_6_8_25 Wn b6 A8 c8 b25 (hSn) (by rw [hWn]; exact own_alloc hX _) (by rw [hWn]; exact Blok.new _ _ _ _ hbn) (fun z hz he => by have := own_lt hX z hz; omega)
                rw [HO.out, HA.out] at h; exact held_listO (by kernel_rfl) (by kernel_rfl) h
            have st_6_13 : ∀ (W : World) (b6 : Nat) (b13 : Nat), (Grew wo W) → (W.ownsRow wo.heap.size 3 1 (Value.slice (some ⟨b6, 0, none⟩) 0 0) 0 []) → (Blok W b13 3 #[.int .i64 tq]) → (∀ z, (Value.slice (some ⟨b6, 0, none⟩) 0 0).ownBlock = some z → z ≠ b13) → wpAnyH Tryz.prog .any OPS Q0 (fun W => Grew wo W) 10 #[true, true, true, true, true, true, true, true, false, true, true, true, true, true, false, false, true, true, false, true, false, true, true, true, true, false, false, false, false, false] ((A0.put (some 47) (.slice (some ⟨b6, 0, none⟩) 0 0)).put (some 54) (.slice (some ⟨b13, 0, none⟩) 1 1)) W := by
              intro W b6 b13 hS hX h13 dX13
              rw [HO.out, HA.out]
              refine held_norm (a' := ?_) ?_ ?_; rotate_left; · (go_simp; with_reducible rfl)
              refine held_triO 8 18 25 (by kernel_rfl) rfl rfl rfl (by rfl) (by rfl) (by rfl) (fun K hK => ?_) (fun K hK => ?_) (fun K hK => ?_)
              · refine wp_appsO (.tmp 47) (.tmp 48) 31 3 1 rfl wo (.int .i64 0) 8 Tryz.underlying31 infoI rfl (by decide) (by decide) _ 0 [] rfl hX _ out.length co (iV out) rfl HL1.out (HRo.out _ hS) H11.out (by omega) hS ?_
                intro A8 c8 wn hon hrn hgn hbn horn
                rw [Nat.zero_add, List.nil_append] at hon
                rw [Nat.zero_add] at horn
                rw [Nat.zero_add]
                refine hK.out _ _ hgn ?_
                clear hK K
                have h := st_6_8_13 wn b6 A8 c8 b13 (hgn) (hon) (h13.grown hbn (fun h => dX13 _ h rfl)) (dis_app horn dX13 h13.lt)
                rw [HO.out, HA.out] at h; exact held_listO (by kernel_rfl) (by kernel_rfl) h
              · go_simp
                go_wp2_with fail
                refine hK.out _ _ (hS.alloc _) ?_
                clear hK K
                obtain ⟨Wn, hWn⟩ : ∃ Wn, Wn = W.alloc (.cells #[] 3) := ⟨_, rfl⟩
                obtain ⟨b18, hbn⟩ : ∃ bn, bn = W.heap.size := ⟨_, rfl⟩
                have hSn : Grew wo Wn := by rw [hWn]; exact hS.alloc _
                rw [← hWn, ← hbn]
                have h := st_6_13_18 Wn b6 b13 b18 (hSn) (by rw [hWn]; exact own_alloc hX _) (by rw [hWn]; exact h13.alloc _) (by rw [hWn]; exact own_empty W _ _ _ _ hbn (by rw [hbn]; exact hS.size)) (dX13) (fun z hz he => by injection he with he; have h1 : b18 = z := he; have := own_lt hX z hz; omega)
                rw [HO.out, HA.out] at h; exact held_listO (by kernel_rfl) (by kernel_rfl) h
              · go_simp
                go_wp2_with fail
                refine hK.out _ _ (hS.alloc _) ?_
                clear hK K
                obtain ⟨Wn, hWn⟩ : ∃ Wn, Wn = W.alloc (.cells #[.int .i64 tm] 3) := ⟨_, rfl⟩
                obtain ⟨b25, hbn⟩ : ∃ bn, bn = W.heap.size := ⟨_, rfl⟩
                have hSn : Grew wo Wn := by rw [hWn]; exact hS.alloc _
                rw [← hWn, ← hbn]
                have h := st_6_13_25 Wn b6 b13 b25 (hSn) (by rw [hWn]; exact own_alloc hX _) (by rw [hWn]; exact h13.alloc _) (by rw [hWn]; exact Blok.new _ _ _ _ hbn) (dX13) (fun z hz he => by have := own_lt hX z hz; omega)
                rw [HO.out, HA.out] at h; exact held_listO (by kernel_rfl) (by kernel_rfl) h
            have st_6_18 : ∀ (W : World) (b6 : Nat) (b18 : Nat), (Grew wo W) → (W.ownsRow wo.heap.size 3 1 (Value.slice (some ⟨b6, 0, none⟩) 0 0) 0 []) → (W.ownsRow wo.heap.size 3 1 (Value.slice (some ⟨b18, 0, none⟩) 0 0) 0 []) → (∀ z, (Value.slice (some ⟨b6, 0, none⟩) 0 0).ownBlock = some z → (Value.slice (some ⟨b18, 0, none⟩) 0 0).ownBlock ≠ some z) → wpAnyH Tryz.prog .any OPS Q0 (fun W => Grew wo W) 10 #[true, true, true, true, true, true, true, true, false, true, true, true, true, false, false, false, true, true, true, true, false, true, true, true, true, false, false, false, false, false] ((A0.put (some 47) (.slice (some ⟨b6, 0, none⟩) 0 0)).put (some 59) (.slice (some ⟨b18, 0, none⟩) 0 0)) W := by
              intro W b6 b18 hS hX hY dXY
              rw [HO.out, HA.out]
              refine held_norm (a' := ?_) ?_ ?_; rotate_left; · (go_simp; with_reducible rfl)
              refine held_triO 8 13 25 (by kernel_rfl) rfl rfl rfl (by rfl) (by rfl) (by rfl) (fun K hK => ?_) (fun K hK => ?_) (fun K hK => ?_)
              · refine wp_appsO (.tmp 47) (.tmp 48) 31 3 1 rfl wo (.int .i64 0) 8 Tryz.underlying31 infoI rfl (by decide) (by decide) _ 0 [] rfl hX _ out.length co (iV out) rfl HL1.out (HRo.out _ hS) H11.out (by omega) hS ?_
                intro A8 c8 wn hon hrn hgn hbn horn
                rw [Nat.zero_add, List.nil_append] at hon
                rw [Nat.zero_add] at horn
                rw [Nat.zero_add]
                refine hK.out _ _ hgn ?_
                clear hK K
                have h := st_6_8_18 wn b6 A8 c8 b18 (hgn) (hon) (own_grown hY hbn (fun z hz h => dXY z h.symm hz)) (dis_app2 horn dXY (own_lt hY))
                rw [HO.out, HA.out] at h; exact held_listO (by kernel_rfl) (by kernel_rfl) h
              · go_simp
                go_wp2_with fail
                refine hK.out _ _ (hS.alloc _) ?_
                clear hK K
                obtain ⟨Wn, hWn⟩ : ∃ Wn, Wn = W.alloc (.cells #[.int .i64 tq] 3) := ⟨_, rfl⟩
                obtain ⟨b13, hbn⟩ : ∃ bn, bn = W.heap.size := ⟨_, rfl⟩
                have hSn : Grew wo Wn := by rw [hWn]; exact hS.alloc _
                rw [← hWn, ← hbn]
                have h := st_6_13_18 Wn b6 b13 b18 (hSn) (by rw [hWn]; exact own_alloc hX _) (by rw [hWn]; exact Blok.new _ _ _ _ hbn) (by rw [hWn]; exact own_alloc hY _) (fun z hz he => by have := own_lt hX z hz; omega) (dXY)
                rw [HO.out, HA.out] at h; exact held_listO (by kernel_rfl) (by kernel_rfl) h
              · go_simp
                go_wp2_with fail
                refine hK.out _ _ (hS.alloc _) ?_
                clear hK K
                obtain ⟨Wn, hWn⟩ : ∃ Wn, Wn = W.alloc (.cells #[.int .i64 tm] 3) := ⟨_, rfl⟩
                obtain ⟨b25, hbn⟩ : ∃ bn, bn = W.heap.size := ⟨_, rfl⟩
                have hSn : Grew wo Wn := by rw [hWn]; exact hS.alloc _
                rw [← hWn, ← hbn]
                have h := st_6_18_25 Wn b6 b18 b25 (hSn) (by rw [hWn]; exact own_alloc hX _) (by rw [hWn]; exact own_alloc hY _) (by rw [hWn]; exact Blok.new _ _ _ _ hbn) (fun z hz he => by have := own_lt hX z hz; omega) (dXY) (fun z hz he => by have := own_lt hY z hz; omega)
                rw [HO.out, HA.out] at h; exact held_listO (by kernel_rfl) (by kernel_rfl) h
            have st_6_25 : ∀ (W : World) (b6 : Nat) (b25 : Nat), (Grew wo W) → (W.ownsRow wo.heap.size 3 1 (Value.slice (some ⟨b6, 0, none⟩) 0 0) 0 []) → (Blok W b25 3 #[.int .i64 tm]) → (∀ z, (Value.slice (some ⟨b6, 0, none⟩) 0 0).ownBlock = some z → z ≠ b25) → wpAnyH Tryz.prog .any OPS Q0 (fun W => Grew wo W) 10 #[true, true, true, true, true, true, true, true, false, true, true, true, true, false, false, false, true, true, false, true, false, true, true, true, true, true, false, false, false, false] ((A0.put (some 47) (.slice (some ⟨b6, 0, none⟩) 0 0)).put (some 66) (.slice (some ⟨b25, 0, none⟩) 1 1)) W := by
              intro W b6 b25 hS hX h25 dX25
              rw [HO.out, HA.out]
              refine held_norm (a' := ?_) ?_ ?_; rotate_left; · (go_simp; with_reducible rfl)
              refine held_triO 8 13 18 (by kernel_rfl) rfl rfl rfl (by rfl) (by rfl) (by rfl) (fun K hK => ?_) (fun K hK => ?_) (fun K hK => ?_)
              · refine wp_appsO (.tmp 47) (.tmp 48) 31 3 1 rfl wo (.int .i64 0) 8 Tryz.underlying31 infoI rfl (by decide) (by decide) _ 0 [] rfl hX _ out.length co (iV out) rfl HL1.out (HRo.out _ hS) H11.out (by omega) hS ?_
                intro A8 c8 wn hon hrn hgn hbn horn
                rw [Nat.zero_add, List.nil_append] at hon
                rw [Nat.zero_add] at horn
                rw [Nat.zero_add]
                refine hK.out _ _ hgn ?_
                clear hK K
                have h := st_6_8_25 wn b6 A8 c8 b25 (hgn) (hon) (h25.grown hbn (fun h => dX25 _ h rfl)) (dis_app horn dX25 h25.lt)
                rw [HO.out, HA.out] at h; exact held_listO (by kernel_rfl) (by kernel_rfl) h
              · go_simp
                go_wp2_with fail
                refine hK.out _ _ (hS.alloc _) ?_
                clear hK K
                obtain ⟨Wn, hWn⟩ : ∃ Wn, Wn = W.alloc (.cells #[.int .i64 tq] 3) := ⟨_, rfl⟩
                obtain ⟨b13, hbn⟩ : ∃ bn, bn = W.heap.size := ⟨_, rfl⟩
                have hSn : Grew wo Wn := by rw [hWn]; exact hS.alloc _
                rw [← hWn, ← hbn]
                have h := st_6_13_25 Wn b6 b13 b25 (hSn) (by rw [hWn]; exact own_alloc hX _) (by rw [hWn]; exact Blok.new _ _ _ _ hbn) (by rw [hWn]; exact h25.alloc _) (fun z hz he => by have := own_lt hX z hz; omega) (dX25)
                rw [HO.out, HA.out] at h; exact held_listO (by kernel_rfl) (by kernel_rfl) h
              · go_simp
                go_wp2_with fail
                refine hK.out _ _ (hS.alloc _) ?_
                clear hK K
                obtain ⟨Wn, hWn⟩ : ∃ Wn, Wn = W.alloc (.cells #[] 3) := ⟨_, rfl⟩
                obtain ⟨b18, hbn⟩ : ∃ bn, bn = W.heap.size := ⟨_, rfl⟩
                have hSn : Grew wo Wn := by rw [hWn]; exact hS.alloc _
                rw [← hWn, ← hbn]
                have h := st_6_18_25 Wn b6 b18 b25 (hSn) (by rw [hWn]; exact own_alloc hX _) (by rw [hWn]; exact own_empty W _ _ _ _ hbn (by rw [hbn]; exact hS.size)) (by rw [hWn]; exact h25.alloc _) (dX25) (fun z hz he => by injection he with he; have h1 : b18 = z := he; have := own_lt hX z hz; omega) (fun z hz he => by injection hz with hz; have h1 : b18 = z := hz; have := h25.lt; omega)
                rw [HO.out, HA.out] at h; exact held_listO (by kernel_rfl) (by kernel_rfl) h
            have st_13_18 : ∀ (W : World) (b13 : Nat) (b18 : Nat), (Grew wo W) → (Blok W b13 3 #[.int .i64 tq]) → (W.ownsRow wo.heap.size 3 1 (Value.slice (some ⟨b18, 0, none⟩) 0 0) 0 []) → wpAnyH Tryz.prog .any OPS Q0 (fun W => Grew wo W) 10 #[true, true, true, true, true, true, false, true, false, true, true, true, true, true, false, false, true, true, true, true, false, true, true, true, true, false, false, false, false, false] ((A0.put (some 54) (.slice (some ⟨b13, 0, none⟩) 1 1)).put (some 59) (.slice (some ⟨b18, 0, none⟩) 0 0)) W := by
              intro W b13 b18 hS h13 hY
              rw [HO.out, HA.out]
              refine held_norm (a' := ?_) ?_ ?_; rotate_left; · (go_simp; with_reducible rfl)
              refine held_pairO 6 25 (by kernel_rfl) rfl rfl (by rfl) (by rfl) (fun K hK => ?_) (fun K hK => ?_)
              · go_simp
                go_wp2_with fail
                refine hK.out _ _ (hS.alloc _) ?_
                clear hK K
                obtain ⟨Wn, hWn⟩ : ∃ Wn, Wn = W.alloc (.cells #[] 3) := ⟨_, rfl⟩
                obtain ⟨b6, hbn⟩ : ∃ bn, bn = W.heap.size := ⟨_, rfl⟩
                have hSn : Grew wo Wn := by rw [hWn]; exact hS.alloc _
                rw [← hWn, ← hbn]
                have h := st_6_13_18 Wn b6 b13 b18 (hSn) (by rw [hWn]; exact own_empty W _ _ _ _ hbn (by rw [hbn]; exact hS.size)) (by rw [hWn]; exact h13.alloc _) (by rw [hWn]; exact own_alloc hY _) (fun z hz he => by injection hz with hz; have h1 : b6 = z := hz; have := h13.lt; omega) (fun z hz he => by injection hz with hz; have h1 : b6 = z := hz; have := own_lt hY z he; omega)
                rw [HO.out, HA.out] at h; exact held_listO (by kernel_rfl) (by kernel_rfl) h
              · go_simp
                go_wp2_with fail
                refine hK.out _ _ (hS.alloc _) ?_
                clear hK K
                obtain ⟨Wn, hWn⟩ : ∃ Wn, Wn = W.alloc (.cells #[.int .i64 tm] 3) := ⟨_, rfl⟩
                obtain ⟨b25, hbn⟩ : ∃ bn, bn = W.heap.size := ⟨_, rfl⟩
                have hSn : Grew wo Wn := by rw [hWn]; exact hS.alloc _
                rw [← hWn, ← hbn]
                have h := st_13_18_25 Wn b13 b18 b25 (hSn) (by rw [hWn]; exact h13.alloc _) (by rw [hWn]; exact own_alloc hY _) (by rw [hWn]; exact Blok.new _ _ _ _ hbn) (fun z hz he => by have := own_lt hY z hz; omega)
                rw [HO.out, HA.out] at h; exact held_listO (by kernel_rfl) (by kernel_rfl) h
            have st_13_25 : ∀ (W : World) (b13 : Nat) (b25 : Nat), (Grew wo W) → (Blok W b13 3 #[.int .i64 tq]) → (Blok W b25 3 #[.int .i64 tm]) → wpAnyH Tryz.prog .any OPS Q0 (fun W => Grew wo W) 10 #[true, true, true, true, true, true, false, true, false, true, true, true, true, true, false, false, true, true, false, true, false, true, true, true, true, true, false, false, false, false] ((A0.put (some 54) (.slice (some ⟨b13, 0, none⟩) 1 1)).put (some 66) (.slice (some ⟨b25, 0, none⟩) 1 1)) W := by
              intro W b13 b25 hS h13 h25
              rw [HO.out, HA.out]
              refine held_norm (a' := ?_) ?_ ?_; rotate_left; · (go_simp; with_reducible rfl)
              refine held_pairO 6 18 (by kernel_rfl) rfl rfl (by rfl) (by rfl) (fun K hK => ?_) (fun K hK => ?_)
              · go_simp
                go_wp2_with fail
                refine hK.out _ _ (hS.alloc _) ?_
                clear hK K
                obtain ⟨Wn, hWn⟩ : ∃ Wn, Wn = W.alloc (.cells #[] 3) := ⟨_, rfl⟩
                obtain ⟨b6, hbn⟩ : ∃ bn, bn = W.heap.size := ⟨_, rfl⟩
                have hSn : Grew wo Wn := by rw [hWn]; exact hS.alloc _
                rw [← hWn, ← hbn]
                have h := st_6_13_25 Wn b6 b13 b25 (hSn) (by rw [hWn]; exact own_empty W _ _ _ _ hbn (by rw [hbn]; exact hS.size)) (by rw [hWn]; exact h13.alloc _) (by rw [hWn]; exact h25.alloc _) (fun z hz he => by injection hz with hz; have h1 : b6 = z := hz; have := h13.lt; omega) (fun z hz he => by injection hz with hz; have h1 : b6 = z := hz; have := h25.lt; omega)
                rw [HO.out, HA.out] at h; exact held_listO (by kernel_rfl) (by kernel_rfl) h
              · go_simp
                go_wp2_with fail
                refine hK.out _ _ (hS.alloc _) ?_
                clear hK K
                obtain ⟨Wn, hWn⟩ : ∃ Wn, Wn = W.alloc (.cells #[] 3) := ⟨_, rfl⟩
                obtain ⟨b18, hbn⟩ : ∃ bn, bn = W.heap.size := ⟨_, rfl⟩
                have hSn : Grew wo Wn := by rw [hWn]; exact hS.alloc _
                rw [← hWn, ← hbn]
                have h := st_13_18_25 Wn b13 b18 b25 (hSn) (by rw [hWn]; exact h13.alloc _) (by rw [hWn]; exact own_empty W _ _ _ _ hbn (by rw [hbn]; exact hS.size)) (by rw [hWn]; exact h25.alloc _) (fun z hz he => by injection hz with hz; have h1 : b18 = z := hz; have := h25.lt; omega)
                rw [HO.out, HA.out] at h; exact held_listO (by kernel_rfl) (by kernel_rfl) h
            have st_18_25 : ∀ (W : World) (b18 : Nat) (b25 : Nat), (Grew wo W) → (W.ownsRow wo.heap.size 3 1 (Value.slice (some ⟨b18, 0, none⟩) 0 0) 0 []) → (Blok W b25 3 #[.int .i64 tm]) → (∀ z, (Value.slice (some ⟨b18, 0, none⟩) 0 0).ownBlock = some z → z ≠ b25) → wpAnyH Tryz.prog .any OPS Q0 (fun W => Grew wo W) 10 #[true, true, true, true, true, true, false, true, false, true, true, true, true, false, false, false, true, true, true, true, false, true, true, true, true, true, false, false, false, false] ((A0.put (some 59) (.slice (some ⟨b18, 0, none⟩) 0 0)).put (some 66) (.slice (some ⟨b25, 0, none⟩) 1 1)) W := by
              intro W b18 b25 hS hY h25 dY25
              rw [HO.out, HA.out]
              refine held_norm (a' := ?_) ?_ ?_; rotate_left; · (go_simp; with_reducible rfl)
              refine held_pairO 6 13 (by kernel_rfl) rfl rfl (by rfl) (by rfl) (fun K hK => ?_) (fun K hK => ?_)
              · go_simp
                go_wp2_with fail
                refine hK.out _ _ (hS.alloc _) ?_
                clear hK K
                obtain ⟨Wn, hWn⟩ : ∃ Wn, Wn = W.alloc (.cells #[] 3) := ⟨_, rfl⟩
                obtain ⟨b6, hbn⟩ : ∃ bn, bn = W.heap.size := ⟨_, rfl⟩
                have hSn : Grew wo Wn := by rw [hWn]; exact hS.alloc _
                rw [← hWn, ← hbn]
                have h := st_6_18_25 Wn b6 b18 b25 (hSn) (by rw [hWn]; exact own_empty W _ _ _ _ hbn (by rw [hbn]; exact hS.size)) (by rw [hWn]; exact own_alloc hY _) (by rw [hWn]; exact h25.alloc _) (fun z hz he => by injection hz with hz; have h1 : b6 = z := hz; have := h25.lt; omega) (fun z hz he => by injection hz with hz; have h1 : b6 = z := hz; have := own_lt hY z he; omega) (dY25)
                rw [HO.out, HA.out] at h; exact held_listO (by kernel_rfl) (by kernel_rfl) h
              · go_simp
                go_wp2_with fail
                refine hK.out _ _ (hS.alloc _) ?_
                clear hK K
                obtain ⟨Wn, hWn⟩ : ∃ Wn, Wn = W.alloc (.cells #[.int .i64 tq] 3) := ⟨_, rfl⟩
                obtain ⟨b13, hbn⟩ : ∃ bn, bn = W.heap.size := ⟨_, rfl⟩
                have hSn : Grew wo Wn := by rw [hWn]; exact hS.alloc _
                rw [← hWn, ← hbn]
                have h := st_13_18_25 Wn b13 b18 b25 (hSn) (by rw [hWn]; exact Blok.new _ _ _ _ hbn) (by rw [hWn]; exact own_alloc hY _) (by rw [hWn]; exact h25.alloc _) (dY25)
                rw [HO.out, HA.out] at h; exact held_listO (by kernel_rfl) (by kernel_rfl) h
            have st_6 : ∀ (W : World) (b6 : Nat), (Grew wo W) → (W.ownsRow wo.heap.size 3 1 (Value.slice (some ⟨b6, 0, none⟩) 0 0) 0 []) → wpAnyH Tryz.prog .any OPS Q0 (fun W => Grew wo W) 11 #[true, true, true, true, true, true, true, true, false, true, true, true, true, false, false, false, true, true, false, true, false, true, true, true, true, false, false, false, false, false] (A0.put (some 47) (.slice (some ⟨b6, 0, none⟩) 0 0)) W := by
              intro W b6 hS hX
              rw [HO.out, HA.out]
              refine held_norm (a' := ?_) ?_ ?_; rotate_left; · (go_simp; with_reducible rfl)
              refine held_quadO 8 13 18 25 (by kernel_rfl) rfl rfl rfl rfl (by rfl) (by rfl) (by rfl) (by rfl) (fun K hK => ?_) (fun K hK => ?_) (fun K hK => ?_) (fun K hK => ?_)
              · refine wp_appsO (.tmp 47) (.tmp 48) 31 3 1 rfl wo (.int .i64 0) 8 Tryz.underlying31 infoI rfl (by decide) (by decide) _ 0 [] rfl hX _ out.length co (iV out) rfl HL1.out (HRo.out _ hS) H11.out (by omega) hS ?_
                intro A8 c8 wn hon hrn hgn hbn horn
                rw [Nat.zero_add, List.nil_append] at hon
                rw [Nat.zero_add] at horn
                rw [Nat.zero_add]
                refine hK.out _ _ hgn ?_
                clear hK K
                have h := st_6_8 wn b6 A8 c8 (hgn) (hon)
                rw [HO.out, HA.out] at h; exact held_listO (by kernel_rfl) (by kernel_rfl) h
              · go_simp
                go_wp2_with fail
                refine hK.out _ _ (hS.alloc _) ?_
                clear hK K
                obtain ⟨Wn, hWn⟩ : ∃ Wn, Wn = W.alloc (.cells #[.int .i64 tq] 3) := ⟨_, rfl⟩
                obtain ⟨b13, hbn⟩ : ∃ bn, bn = W.heap.size := ⟨_, rfl⟩
                have hSn : Grew wo Wn := by rw [hWn]; exact hS.alloc _
                rw [← hWn, ← hbn]
                have h := st_6_13 Wn b6 b13 (hSn) (by rw [hWn]; exact own_alloc hX _) (by rw [hWn]; exact Blok.new _ _ _ _ hbn) (fun z hz he => by have := own_lt hX z hz; omega)
                rw [HO.out, HA.out] at h; exact held_listO (by kernel_rfl) (by kernel_rfl) h
              · go_simp
                go_wp2_with fail
                refine hK.out _ _ (hS.alloc _) ?_
                clear hK K
                obtain ⟨Wn, hWn⟩ : ∃ Wn, Wn = W.alloc (.cells #[] 3) := ⟨_, rfl⟩
                obtain ⟨b18, hbn⟩ : ∃ bn, bn = W.heap.size := ⟨_, rfl⟩
                have hSn : Grew wo Wn := by rw [hWn]; exact hS.alloc _
                rw [← hWn, ← hbn]
                have h := st_6_18 Wn b6 b18 (hSn) (by rw [hWn]; exact own_alloc hX _) (by rw [hWn]; exact own_empty W _ _ _ _ hbn (by rw [hbn]; exact hS.size)) (fun z hz he => by injection he with he; have h1 : b18 = z := he; have := own_lt hX z hz; omega)
                rw [HO.out, HA.out] at h; exact held_listO (by kernel_rfl) (by kernel_rfl) h
              · go_simp
                go_wp2_with fail
                refine hK.out _ _ (hS.alloc _) ?_
                clear hK K
                obtain ⟨Wn, hWn⟩ : ∃ Wn, Wn = W.alloc (.cells #[.int .i64 tm] 3) := ⟨_, rfl⟩
                obtain ⟨b25, hbn⟩ : ∃ bn, bn = W.heap.size := ⟨_, rfl⟩
                have hSn : Grew wo Wn := by rw [hWn]; exact hS.alloc _
                rw [← hWn, ← hbn]
                have h := st_6_25 Wn b6 b25 (hSn) (by rw [hWn]; exact own_alloc hX _) (by rw [hWn]; exact Blok.new _ _ _ _ hbn) (fun z hz he => by have := own_lt hX z hz; omega)
                rw [HO.out, HA.out] at h; exact held_listO (by kernel_rfl) (by kernel_rfl) h
            have st_13 : ∀ (W : World) (b13 : Nat), (Grew wo W) → (Blok W b13 3 #[.int .i64 tq]) → wpAnyH Tryz.prog .any OPS Q0 (fun W => Grew wo W) 11 #[true, true, true, true, true, true, false, true, false, true, true, true, true, true, false, false, true, true, false, true, false, true, true, true, true, false, false, false, false, false] (A0.put (some 54) (.slice (some ⟨b13, 0, none⟩) 1 1)) W := by
              intro W b13 hS h13
              rw [HO.out, HA.out]
              refine held_norm (a' := ?_) ?_ ?_; rotate_left; · (go_simp; with_reducible rfl)
              refine held_triO 6 18 25 (by kernel_rfl) rfl rfl rfl (by rfl) (by rfl) (by rfl) (fun K hK => ?_) (fun K hK => ?_) (fun K hK => ?_)
              · go_simp
                go_wp2_with fail
                refine hK.out _ _ (hS.alloc _) ?_
                clear hK K
                obtain ⟨Wn, hWn⟩ : ∃ Wn, Wn = W.alloc (.cells #[] 3) := ⟨_, rfl⟩
                obtain ⟨b6, hbn⟩ : ∃ bn, bn = W.heap.size := ⟨_, rfl⟩
                have hSn : Grew wo Wn := by rw [hWn]; exact hS.alloc _
                rw [← hWn, ← hbn]
                have h := st_6_13 Wn b6 b13 (hSn) (by rw [hWn]; exact own_empty W _ _ _ _ hbn (by rw [hbn]; exact hS.size)) (by rw [hWn]; exact h13.alloc _) (fun z hz he => by injection hz with hz; have h1 : b6 = z := hz; have := h13.lt; omega)
                rw [HO.out, HA.out] at h; exact held_listO (by kernel_rfl) (by kernel_rfl) h
              · go_simp
                go_wp2_with fail
                refine hK.out _ _ (hS.alloc _) ?_
                clear hK K
                obtain ⟨Wn, hWn⟩ : ∃ Wn, Wn = W.alloc (.cells #[] 3) := ⟨_, rfl⟩
                obtain ⟨b18, hbn⟩ : ∃ bn, bn = W.heap.size := ⟨_, rfl⟩
                have hSn : Grew wo Wn := by rw [hWn]; exact hS.alloc _
                rw [← hWn, ← hbn]
                have h := st_13_18 Wn b13 b18 (hSn) (by rw [hWn]; exact h13.alloc _) (by rw [hWn]; exact own_empty W _ _ _ _ hbn (by rw [hbn]; exact hS.size))
                rw [HO.out, HA.out] at h; exact held_listO (by kernel_rfl) (by kernel_rfl) h
              · go_simp
                go_wp2_with fail
                refine hK.out _ _ (hS.alloc _) ?_
                clear hK K
                obtain ⟨Wn, hWn⟩ : ∃ Wn, Wn = W.alloc (.cells #[.int .i64 tm] 3) := ⟨_, rfl⟩
                obtain ⟨b25, hbn⟩ : ∃ bn, bn = W.heap.size := ⟨_, rfl⟩
                have hSn : Grew wo Wn := by rw [hWn]; exact hS.alloc _
                rw [← hWn, ← hbn]
                have h := st_13_25 Wn b13 b25 (hSn) (by rw [hWn]; exact h13.alloc _) (by rw [hWn]; exact Blok.new _ _ _ _ hbn)
                rw [HO.out, HA.out] at h; exact held_listO (by kernel_rfl) (by kernel_rfl) h
            have st_18 : ∀ (W : World) (b18 : Nat), (Grew wo W) → (W.ownsRow wo.heap.size 3 1 (Value.slice (some ⟨b18, 0, none⟩) 0 0) 0 []) → wpAnyH Tryz.prog .any OPS Q0 (fun W => Grew wo W) 11 #[true, true, true, true, true, true, false, true, false, true, true, true, true, false, false, false, true, true, true, true, false, true, true, true, true, false, false, false, false, false] (A0.put (some 59) (.slice (some ⟨b18, 0, none⟩) 0 0)) W := by
              intro W b18 hS hY
              rw [HO.out, HA.out]
              refine held_norm (a' := ?_) ?_ ?_; rotate_left; · (go_simp; with_reducible rfl)
              refine held_triO 6 13 25 (by kernel_rfl) rfl rfl rfl (by rfl) (by rfl) (by rfl) (fun K hK => ?_) (fun K hK => ?_) (fun K hK => ?_)
              · go_simp
                go_wp2_with fail
                refine hK.out _ _ (hS.alloc _) ?_
                clear hK K
                obtain ⟨Wn, hWn⟩ : ∃ Wn, Wn = W.alloc (.cells #[] 3) := ⟨_, rfl⟩
                obtain ⟨b6, hbn⟩ : ∃ bn, bn = W.heap.size := ⟨_, rfl⟩
                have hSn : Grew wo Wn := by rw [hWn]; exact hS.alloc _
                rw [← hWn, ← hbn]
                have h := st_6_18 Wn b6 b18 (hSn) (by rw [hWn]; exact own_empty W _ _ _ _ hbn (by rw [hbn]; exact hS.size)) (by rw [hWn]; exact own_alloc hY _) (fun z hz he => by injection hz with hz; have h1 : b6 = z := hz; have := own_lt hY z he; omega)
                rw [HO.out, HA.out] at h; exact held_listO (by kernel_rfl) (by kernel_rfl) h
              · go_simp
                go_wp2_with fail
                refine hK.out _ _ (hS.alloc _) ?_
                clear hK K
                obtain ⟨Wn, hWn⟩ : ∃ Wn, Wn = W.alloc (.cells #[.int .i64 tq] 3) := ⟨_, rfl⟩
                obtain ⟨b13, hbn⟩ : ∃ bn, bn = W.heap.size := ⟨_, rfl⟩
                have hSn : Grew wo Wn := by rw [hWn]; exact hS.alloc _
                rw [← hWn, ← hbn]
                have h := st_13_18 Wn b13 b18 (hSn) (by rw [hWn]; exact Blok.new _ _ _ _ hbn) (by rw [hWn]; exact own_alloc hY _)
                rw [HO.out, HA.out] at h; exact held_listO (by kernel_rfl) (by kernel_rfl) h
              · go_simp
                go_wp2_with fail
                refine hK.out _ _ (hS.alloc _) ?_
                clear hK K
                obtain ⟨Wn, hWn⟩ : ∃ Wn, Wn = W.alloc (.cells #[.int .i64 tm] 3) := ⟨_, rfl⟩
                obtain ⟨b25, hbn⟩ : ∃ bn, bn = W.heap.size := ⟨_, rfl⟩
                have hSn : Grew wo Wn := by rw [hWn]; exact hS.alloc _
                rw [← hWn, ← hbn]
                have h := st_18_25 Wn b18 b25 (hSn) (by rw [hWn]; exact own_alloc hY _) (by rw [hWn]; exact Blok.new _ _ _ _ hbn) (fun z hz he => by have := own_lt hY z hz; omega)
                rw [HO.out, HA.out] at h; exact held_listO (by kernel_rfl) (by kernel_rfl) h
            have st_25 : ∀ (W : World) (b25 : Nat), (Grew wo W) → (Blok W b25 3 #[.int .i64 tm]) → wpAnyH Tryz.prog .any OPS Q0 (fun W => Grew wo W) 11 #[true, true, true, true, true, true, false, true, false, true, true, true, true, false, false, false, true, true, false, true, false, true, true, true, true, true, false, false, false, false] (A0.put (some 66) (.slice (some ⟨b25, 0, none⟩) 1 1)) W := by
              intro W b25 hS h25
              rw [HO.out, HA.out]
              refine held_norm (a' := ?_) ?_ ?_; rotate_left; · (go_simp; with_reducible rfl)
              refine held_triO 6 13 18 (by kernel_rfl) rfl rfl rfl (by rfl) (by rfl) (by rfl) (fun K hK => ?_) (fun K hK => ?_) (fun K hK => ?_)
              · go_simp
                go_wp2_with fail
                refine hK.out _ _ (hS.alloc _) ?_
                clear hK K
                obtain ⟨Wn, hWn⟩ : ∃ Wn, Wn = W.alloc (.cells #[] 3) := ⟨_, rfl⟩
                obtain ⟨b6, hbn⟩ : ∃ bn, bn = W.heap.size := ⟨_, rfl⟩
                have hSn : Grew wo Wn := by rw [hWn]; exact hS.alloc _
                rw [← hWn, ← hbn]
                have h := st_6_25 Wn b6 b25 (hSn) (by rw [hWn]; exact own_empty W _ _ _ _ hbn (by rw [hbn]; exact hS.size)) (by rw [hWn]; exact h25.alloc _) (fun z hz he => by injection hz with hz; have h1 : b6 = z := hz; have := h25.lt; omega)
                rw [HO.out, HA.out] at h; exact held_listO (by kernel_rfl) (by kernel_rfl) h
              · go_simp
                go_wp2_with fail
                refine hK.out _ _ (hS.alloc _) ?_
                clear hK K
                obtain ⟨Wn, hWn⟩ : ∃ Wn, Wn = W.alloc (.cells #[.int .i64 tq] 3) := ⟨_, rfl⟩
                obtain ⟨b13, hbn⟩ : ∃ bn, bn = W.heap.size := ⟨_, rfl⟩
                have hSn : Grew wo Wn := by rw [hWn]; exact hS.alloc _
                rw [← hWn, ← hbn]
                have h := st_13_25 Wn b13 b25 (hSn) (by rw [hWn]; exact Blok.new _ _ _ _ hbn) (by rw [hWn]; exact h25.alloc _)
                rw [HO.out, HA.out] at h; exact held_listO (by kernel_rfl) (by kernel_rfl) h
              · go_simp
                go_wp2_with fail
                refine hK.out _ _ (hS.alloc _) ?_
                clear hK K
                obtain ⟨Wn, hWn⟩ : ∃ Wn, Wn = W.alloc (.cells #[] 3) := ⟨_, rfl⟩
                obtain ⟨b18, hbn⟩ : ∃ bn, bn = W.heap.size := ⟨_, rfl⟩
                have hSn : Grew wo Wn := by rw [hWn]; exact hS.alloc _
                rw [← hWn, ← hbn]
                have h := st_18_25 Wn b18 b25 (hSn) (by rw [hWn]; exact own_empty W _ _ _ _ hbn (by rw [hbn]; exact hS.size)) (by rw [hWn]; exact h25.alloc _) (fun z hz he => by injection hz with hz; have h1 : b18 = z := hz; have := h25.lt; omega)
                rw [HO.out, HA.out] at h; exact held_listO (by kernel_rfl) (by kernel_rfl) h
            have st : ∀ (W : World), (Grew wo W) → wpAnyH Tryz.prog .any OPS Q0 (fun W => Grew wo W) 12 #[true, true, true, true, true, true, false, true, false, true, true, true, true, false, false, false, true, true, false, true, false, true, true, true, true, false, false, false, false, false] A0 W := by
              intro W hS
              rw [HO.out, HA.out]
              refine held_norm (a' := ?_) ?_ ?_; rotate_left; · (go_simp; with_reducible rfl)
              refine held_quadO 6 13 18 25 (by kernel_rfl) rfl rfl rfl rfl (by rfl) (by rfl) (by rfl) (by rfl) (fun K hK => ?_) (fun K hK => ?_) (fun K hK => ?_) (fun K hK => ?_)
              · go_simp
                go_wp2_with fail
                refine hK.out _ _ (hS.alloc _) ?_
                clear hK K
                obtain ⟨Wn, hWn⟩ : ∃ Wn, Wn = W.alloc (.cells #[] 3) := ⟨_, rfl⟩
                obtain ⟨b6, hbn⟩ : ∃ bn, bn = W.heap.size := ⟨_, rfl⟩
                have hSn : Grew wo Wn := by rw [hWn]; exact hS.alloc _
                rw [← hWn, ← hbn]
                have h := st_6 Wn b6 (hSn) (by rw [hWn]; exact own_empty W _ _ _ _ hbn (by rw [hbn]; exact hS.size))
                rw [HO.out, HA.out] at h; exact held_listO (by kernel_rfl) (by kernel_rfl) h
              · go_simp
                go_wp2_with fail
                refine hK.out _ _ (hS.alloc _) ?_
                clear hK K
                obtain ⟨Wn, hWn⟩ : ∃ Wn, Wn = W.alloc (.cells #[.int .i64 tq] 3) := ⟨_, rfl⟩
                obtain ⟨b13, hbn⟩ : ∃ bn, bn = W.heap.size := ⟨_, rfl⟩
                have hSn : Grew wo Wn := by rw [hWn]; exact hS.alloc _
                rw [← hWn, ← hbn]
                have h := st_13 Wn b13 (hSn) (by rw [hWn]; exact Blok.new _ _ _ _ hbn)
                rw [HO.out, HA.out] at h; exact held_listO (by kernel_rfl) (by kernel_rfl) h
              · go_simp
                go_wp2_with fail
                refine hK.out _ _ (hS.alloc _) ?_
                clear hK K
                obtain ⟨Wn, hWn⟩ : ∃ Wn, Wn = W.alloc (.cells #[] 3) := ⟨_, rfl⟩
                obtain ⟨b18, hbn⟩ : ∃ bn, bn = W.heap.size := ⟨_, rfl⟩
                have hSn : Grew wo Wn := by rw [hWn]; exact hS.alloc _
                rw [← hWn, ← hbn]
                have h := st_18 Wn b18 (hSn) (by rw [hWn]; exact own_empty W _ _ _ _ hbn (by rw [hbn]; exact hS.size))
                rw [HO.out, HA.out] at h; exact held_listO (by kernel_rfl) (by kernel_rfl) h
              · go_simp
                go_wp2_with fail
                refine hK.out _ _ (hS.alloc _) ?_
                clear hK K
                obtain ⟨Wn, hWn⟩ : ∃ Wn, Wn = W.alloc (.cells #[.int .i64 tm] 3) := ⟨_, rfl⟩
                obtain ⟨b25, hbn⟩ : ∃ bn, bn = W.heap.size := ⟨_, rfl⟩
                have hSn : Grew wo Wn := by rw [hWn]; exact hS.alloc _
                rw [← hWn, ← hbn]
                have h := st_25 Wn b25 (hSn) (by rw [hWn]; exact Blok.new _ _ _ _ hbn)
                rw [HO.out, HA.out] at h; exact held_listO (by kernel_rfl) (by kernel_rfl) h
            refine held_listO (by kernel_rfl) rfl (st W1 hS0)
          case rest =>
            obtain ⟨rfl, hg9⟩ := hcut
            have HG9 := Lib.hid hg9
            clear hg9 HG3
            by_cases hlt : zq < zm
            · have e1 : decide (zq < zm) = true := decide_eq_true hlt
              have HM1 : Hid (minAt key left (q + 1) = q) := Lib.hid (by rw [HMc.out, if_pos hlt])
              rw [e1]
              clear hlt HMc
              go_wp2
              exact ⟨⟨q + 1, by omega, by omega, by go_num, by rw [HM1.out], HG9.out⟩, by simp only [intOf]; omega⟩
            · have e1 : decide (zq < zm) = false := decide_eq_false hlt
              have HM1 : Hid (minAt key left (q + 1) = mn) := Lib.hid (by rw [HMc.out, if_neg hlt])
              rw [e1]
              clear hlt HMc
              go_wp2
              exact ⟨⟨q + 1, by omega, by omega, by go_num, by rw [HM1.out], HG9.out⟩, by simp only [intOf]; omega⟩
      obtain rfl : q = left.length := by omega
      have hne0 : left ≠ [] := fun h => by rw [h] at h0; simp at h0
      have hmn := minAt_lt key left left.length (Nat.le_refl _) hne0
      have HGr2 : Hid (greedB sc sz kk (out ++ [left.getD (minAt key left left.length) 0]) (wout left (left.getD (minAt key left left.length) 0)) = fin) := Lib.hid (by
        have h := HGr.out
        rw [greedB, if_neg hne0, HKey.out] at h
        exact h)
      generalize minAt key left left.length = mn at *
      have hgd : left.getD mn 0 = left[mn] := by rw [List.getD_eq_getElem?_getD, List.getElem?_eq_getElem hmn]; rfl
      rw [hgd] at HGr2
      clear hne0 hgd HKey HGr
      obtain ⟨hb, hc⟩ := HCe.out _ HGx.out mn hmn
      have hwl := wout_len HND.out (List.getElem_mem hmn)
      have hnd2 := wout_nodup HND.out left[mn]
      have HOx := Lib.hid (own_grewE HO.out HGx.out)
      have HW1 := Lib.hid (HWo.out left[mn])
      have HGw := Lib.hid (HG.out.trans HGx.out)
      have HNo : Hid (iV (out ++ [left[mn]]) = iV out ++ [.int .i64 left[mn]]) := Lib.hid (by simp [iV])
      have HCm : Hid (∀ W, Grew wo W → bl < W.heap.size ∧ W.cell? ⟨bl, ol + mn, none⟩ = some (.int .i64 left[mn])) := Lib.hid fun W hW => HCe.out W hW mn hmn
      have HRl : Hid (∀ W, Row W (some ⟨bl, ol, none⟩) (iV left) → bl < W.heap.size ∧ W.cell? ⟨bl, ol + mn, none⟩ = some (.int .i64 left[mn])) := Lib.hid fun W hW => by
        obtain ⟨b', o', he, h2, h3⟩ := rowI_at hW hmn
        injection he with he
        injection he with e1 e2
        subst e1 e2
        exact ⟨h2, h3⟩
      have HWb : Hid (∀ W, Row W (some ⟨bl, ol, none⟩) (iV left) → Calls Tryz.prog 70 #[.slice (some ⟨bl, ol, none⟩) left.length cl, .int .i64 left[mn]] W (OwnI W (wout left left[mn]))) := Lib.hid fun W hW => rwithout_any left left[mn] (by omega) _ cl W hW
      have HLx := Lib.hid (own_grewE HL.out HGx.out)
      have HOn2 := HOn
      clear HO HCe HND HOn HW1 HWo HCm HL
      generalize left[mn] = tm at *
      generalize hwt : wout left tm = wl at *
      have HNd2 := Lib.hid hnd2
      have HWl := Lib.hid hwl
      clear hnd2 hwt hwl
      go_upto_region 13 with (at_builtin; refine wpList_app rfl _ _ 31 3 rfl W0 (.int .i64 0) 8 Tryz.underlying31 infoI rfl (by decide) _ out.length (iV out) rfl (own_alloc HOx.out _) _ 1 1 [.int .i64 tm] rfl rfl (row_one _ _ _ _ rfl) (by simp [Value.oneCell']) (by omega) (HGw.out.alloc _) ?_; intro A8 c8 w8 ho8 _ hg8 hb8 hor8; have HO8 := Lib.hid ho8; have HG8 := Lib.hid hg8; have HL8 := Lib.hid (own_grown (own_alloc HLx.out (.cells #[.int .i64 tm] 3)) hb8 (fun z hz h => HNe.out z hz h.symm)); clear ho8 hg8 hb8 hor8)
      clear hb hc
      obtain ⟨hb, hc⟩ := HRl.out _ (own_rowI HL8.out)
      go_wp2_with (go_at_call 70; (with_reducible refine (HWb.out _ (own_rowI HL8.out)).mono ?_); rintro en w9 ⟨A9, c9, rfl, hg9, ho9⟩; have HG9 := Lib.hid hg9; have HL9 := Lib.hid ho9; clear hg9 ho9)
      have hO9 : w9.ownsRow W0.heap.size 3 1 (.slice A8 (out.length + 1) c8) (out.length + 1) (iV (out ++ [tm])) := by
        rw [HNo.out]
        exact own_grewE HO8.out HG9.out
      have hL9 : w9.ownsRow W0.heap.size 3 1 (.slice A9 wl.length c9) wl.length (iV wl) := own_le HL9.out HG8.out.size
      have hdis : ∀ z, (Value.slice A9 wl.length c9).ownBlock = some z → (Value.slice A8 (out.length + 1) c8).ownBlock ≠ some z := fun z hz h => by
        have h1 := own_base HL9.out z hz
        have h2 := own_lt HO8.out z h
        omega
      have hwl := HWl.out
      have hlk := HLk.out
      have hon := HOn2.out
      exact ⟨⟨kk, wl, out ++ [tm], A9, c9, A8, c8, by omega, HNd2.out, by rw [List.length_append]; simp only [List.length_singleton]; omega, HGr2.out, rfl, by rw [List.length_append]; rfl, HG8.out.trans HG9.out, hL9, by rw [List.length_append]; exact hO9, fun z hz => by rw [List.length_append]; exact hdis z hz⟩, by simp only [lenW]; omega⟩
end Go.Proofs.YtbglmcebkpkccaaGreatDoor
namespace Go.Proofs.YtbglmcebkpkccaaGreatDoor
open Go.RowKit
attribute [local go_sem] more_cell more_frozen more_more more_setCell more_of_drew more_of_drewN lt_more le_more past_cell past_cell2 past_frozen past_frozen2 past_setCell past_setCell2 mid_cell mid_frozen mid_setCell
attribute [local go_sem] fldC0 fldC1 fldS0
attribute [local go_sem ↓] Go.wp_at_zero Go.wp_at_succ
set_option maxHeartbeats 16000000 in
set_option maxRecDepth 100000 in
theorem orderGreedy_walk (it : List Ex) (sr : List Fr) (wh : Ex) (gr : List Ex) (A : Option Addr) (k : Nat) (B : Option Addr) (j : Nat) (C : Option Addr) (c : Nat) (D : Option Addr) (d : Nat) (l : List Sst) (L : Option Addr) (kl : Nat) (w : World) (hl : LrgSd l)
    (rA : ExsR (PRow w) A it) (rB : FrsR (PRow w) B sr) (rC : ExsR (PRow w) C wh.l) (rD : ExsR (PRow w) D gr) (ra : SstsR (PRow w) L l) (htab : Lib.TabIs Tryz.prog w "trommel/cost.turned" .i64 [0, 1, 2, 5, 6, 3, 4]) :
    Gives Tryz.prog 6 #[.agg (qyC it sr wh gr A k B j C c D d), .slice L l.length kl] w (.bool true) := by
  have ht := turn_of htab
  have HMq : Hid (∀ W, Grew w W → Calls Tryz.prog 7 #[.agg (qyC it sr wh gr A k B j C c D d)] W (MuchR W (goodQ ⟨it, sr, wh, gr⟩))) := Lib.hid fun W hW => muchq_any it sr wh gr A k B j C c D d W (rA.grew hW) (rB.grew hW) (rC.grew hW) (rD.grew hW)
  have HM2 : Hid (∀ W, Grew w W → Calls Tryz.prog 8 #[.slice L l.length kl] W (MuchR W (l.length ≤ 16 ∧ FewSd l))) := Lib.hid fun W hW => rmuch29s_any l hl L kl W (ra.grew hW)
  have hlit : FewSd l → LitSd l := fun h s hs => ⟨by have := (h s hs).1; omega, fun c hc => by have := (h s hs).2 c hc; omega⟩
  have HLv : Hid (∀ W, Grew w W → Gives Tryz.prog 18 #[] W (.bool true)) := Lib.hid fun W hW => live30_any W (ht.grew hW)
  have HAll : Hid (goodQ ⟨it, sr, wh, gr⟩ → l.length ≤ 16 ∧ FewSd l → FewX (normX sr wh) ∧ (∀ W, Grew w W → Calls Tryz.prog 10 #[.agg (qyC it sr wh gr A k B j C c D d)] W (NormF W (normX sr wh))) ∧
      (∀ (x : Nm), FewX x → ∀ X kx B j C c D d E e W, Grew w W → XllR (PRow W) X x.scan → EdsR (PRow W) B x.edges →
        KCost W (scanK (heldAll l) x.scan) (sizeK (heldAll l) x.scan x.edges) (.agg (nmC x X kx B j C c D d E e)) (.slice L l.length kl) ∧ RCost W (scanK (heldAll l) x.scan) (sizeK (heldAll l) x.scan x.edges) (.agg (nmC x X kx B j C c D d E e)) (.slice L l.length kl))) := Lib.hid fun hg hm =>
    ⟨fewX_of hg.src hg.on hg.wh, fun W hW => nrof_any it sr wh gr A k B j C c D d W (Nat.le_trans hg.src (by decide)) hg.on hg.wh (rB.grew hW) (rC.grew hW), fun x hx X kx B j C c D d E e W hW rX rE =>
      ⟨kcost_of l (by have := hm.1; omega) (hlit hm.2) x hx.scan (by have := hx.tabs; omega) hx.edges L kl X kx B j C c D d E e W (ra.grew hW) (ht.grew hW) rX rE, rcost_of l (hlit hm.2) x hx.scan (by have := hx.tabs; omega) hx.edges L kl X kx B j C c D d E e W (ra.grew hW) rX rE⟩⟩
  obtain ⟨W0, hW0⟩ : ∃ W0, W0 = w.alloc (.cells (qyC it sr wh gr A k B j C c D d) 29) := ⟨_, rfl⟩
  have HG0 : Hid (Grew w W0) := Lib.hid (by rw [hW0]; exact (Grew.refl w).alloc _)
  have HB0 : Hid (Blok W0 w.heap.size 29 (qyC it sr wh gr A k B j C c D d)) := Lib.hid (by rw [hW0]; exact Blok.new _ _ _ _ rfl)
  obtain ⟨xl, x0, x1, x2, x3, x4, x5, x6, x7, x8, x9, x10, x11⟩ := qy_in HB0.out
  clear rA rB rC rD ra ht htab hl hlit
  unfold qyC at HMq hW0 ⊢
  unfold Gives
  go_enter Tryz.func6, Tryz.ntmps6
  go_upto_region 1 with fail
  rw [← hW0]
  clear hW0
  go_wp2_with fail
  refine (HMq.out _ HG0.out).mono ?_
  rintro e w1 ⟨t1, rfl, hg1, hq1⟩
  have HG1 := Lib.hid (HG0.out.trans hg1)
  have HB1 := Lib.hid (HB0.out.grew hg1)
  clear hg1 HMq xl x0 x1 x2 x3 x4 x5 x6 x7 x8 x9 x10 x11
  cases t1
  rotate_left
  · go_wp2_with (go_at_call 18; (with_reducible refine (HLv.out _ HG1.out).grows.mono ?_); rintro e9 w9 ⟨rfl, hg9⟩; have HG9 := Lib.hid hg9; clear hg9)
    go_ret
    exact ⟨rfl, HG1.out.trans HG9.out⟩
  have hgq : goodQ ⟨it, sr, wh, gr⟩ := hq1 rfl
  clear hq1
  go_wp2_with fail
  refine (HM2.out _ HG1.out).mono ?_
  rintro e w2 ⟨t2, rfl, hg2, hm⟩
  have HG2 := Lib.hid (HG1.out.trans hg2)
  have HB2 := Lib.hid (HB1.out.grew hg2)
  clear hg2 HM2
  cases t2
  rotate_left
  · clear hm
    go_wp2_with (go_at_call 18; (with_reducible refine (HLv.out _ HG2.out).grows.mono ?_); rintro e9 w9 ⟨rfl, hg9⟩; have HG9 := Lib.hid hg9; clear hg9)
    go_ret
    exact ⟨rfl, HG2.out.trans HG9.out⟩
  have hm2 := hm rfl
  clear hm
  obtain ⟨hfx, hof, hkx⟩ := HAll.out hgq hm2
  have HOf := Lib.hid hof
  have HK := Lib.hid (hkx _ hfx)
  have HFx := Lib.hid hfx
  clear HAll hfx hof hkx hgq hm2
  generalize normX sr wh = x at *
  unfold qyC at HOf
  obtain ⟨xl, x0, x1, x2, x3, x4, x5, x6, x7, x8, x9, x10, x11⟩ := qy_in HB2.out
  go_upto_region 4 with (go_at_call 10; (with_reducible refine (HOf.out _ HG2.out).mono ?_); rintro e2 w3 ⟨A1, k1, B1, j1, C1, c1, D1, d1, E1, f1, rfl, hg3, hm3⟩; unfold nmC)
  obtain ⟨W4, hW4⟩ : ∃ W4, W4 = w3.alloc (.cells (nmC x A1 k1 B1 j1 C1 c1 D1 d1 E1 f1) 39) := ⟨_, rfl⟩
  have hg4 : Grew w3 W4 := by rw [hW4]; exact (Grew.refl _).alloc _
  have HX : Hid (Blok W4 w3.heap.size 39 (nmC x A1 k1 B1 j1 C1 c1 D1 d1 E1 f1)) := Lib.hid (by rw [hW4]; exact Blok.new _ _ _ _ rfl)
  have HG4 : Hid (Grew w W4) := Lib.hid (HG2.out.trans (hg3.trans hg4))
  have hkr := HK.out A1 k1 B1 j1 C1 c1 D1 d1 E1 f1 W4 HG4.out (hm3.scan.grew hg4) (hm3.edges.grew hg4)
  have HKx := Lib.hid hkr.1
  have HRx := Lib.hid hkr.2
  unfold nmC at hW4
  rw [← hW4]
  clear hW4 hg3 hm3 hg4 HG2 HB2 HOf HK hkr xl x0 x1 x2 x3 x4 x5 x6 x7 x8 x9 x10 x11
  generalize hgx : w3.heap.size = gx at *
  clear hgx
  have htabs := HFx.out.tabs
  generalize scanK (heldAll l) x.scan = sc at *
  generalize sizeK (heldAll l) x.scan x.edges = sz at *
  obtain ⟨x0, m0, m1, m2, m3, m4, m5⟩ := nm6 HX.out
  have HGp : Hid (rightP x.scan.length (greedP sc sz x.scan.length)) := Lib.hid (greedP_right sc sz _)
  have hgl : (greedP sc sz x.scan.length).length = x.scan.length := HGp.out.2
  have HRr : Hid (∀ m S' ks' W, rightP x.scan.length m → Row W S' (iV m) → Gives Tryz.prog 20 #[.agg (nmC x A1 k1 B1 j1 C1 c1 D1 d1 E1 f1), .slice S' m.length ks'] W (.bool true)) := Lib.hid fun m S' ks' W hm hr => by have h := rright_any x (by omega) m (by have := hm.2; omega) S' ks' A1 k1 B1 j1 C1 c1 D1 d1 E1 f1 W hr; rwa [decide_eq_true hm] at h
  have HR1 := Lib.hid fun S' ks' W hr => HRr.out (greedP sc sz x.scan.length) S' ks' W HGp.out hr
  have HGc : Hid (∀ W, Grew W4 W → Calls Tryz.prog 27 #[.agg (nmC x A1 k1 B1 j1 C1 c1 D1 d1 E1 f1), .slice L l.length kl] W (OwnI W (greedP sc sz x.scan.length))) := Lib.hid fun W hW => greedy_any sc sz _ x (by omega) A1 k1 B1 j1 C1 c1 D1 d1 E1 f1 W (HKx.out.grew hW)
  have HGr : Hid (∀ W, Grew W4 W → Calls Tryz.prog 28 #[.agg (nmC x A1 k1 B1 j1 C1 c1 D1 d1 E1 f1), .slice L l.length kl] W (IntsF W (greedP sc sz x.scan.length))) := Lib.hid fun W hW => rgreedy_any sc sz _ x (by omega) A1 k1 B1 j1 C1 c1 D1 d1 E1 f1 W (HRx.out.grew hW)
  have HSm : Hid (∀ A B c d W, Row W A (iV (greedP sc sz x.scan.length)) → Row W B (iV (greedP sc sz x.scan.length)) → Gives Tryz.prog 24 #[.slice A (greedP sc sz x.scan.length).length c, .slice B (greedP sc sz x.scan.length).length d] W (.bool true)) := Lib.hid fun A B c d W h1 h2 => by
    have h := samelist_any _ _ A B c d W h1 h2 (by omega) (by omega)
    rwa [decide_eq_true rfl] at h
  have HP6 : Hid (x.scan.length ≤ 6 → ∀ W, Grew W4 W → Calls Tryz.prog 26 #[.agg (nmC x A1 k1 B1 j1 C1 c1 D1 d1 E1 f1), .slice L l.length kl] W (OwnI W (bestP sc sz x.scan.length))) := Lib.hid fun h6 W hW => pick_any sc sz _ x h6 A1 k1 B1 j1 C1 c1 D1 d1 E1 f1 W (HKx.out.grew hW)
  have HP7 : Hid (6 < x.scan.length → ∀ W, Grew W4 W → Calls Tryz.prog 26 #[.agg (nmC x A1 k1 B1 j1 C1 c1 D1 d1 E1 f1), .slice L l.length kl] W (OwnI W (greedP sc sz x.scan.length))) := Lib.hid fun h6 W hW => pick_many sc sz _ x h6 (by omega) A1 k1 B1 j1 C1 c1 D1 d1 E1 f1 W (HKx.out.grew hW)
  have HB7 : Hid (6 < x.scan.length → ∀ W, Gives Tryz.prog 23 #[.agg (nmC x A1 k1 B1 j1 C1 c1 D1 d1 E1 f1), .slice L l.length kl] W (.slice none 0 0)) := Lib.hid fun h6 W => best_none _ x h6 A1 k1 B1 j1 C1 c1 D1 d1 E1 f1 W
  have HR6 := Lib.hid fun S' ks' W hr => HRr.out (bestP sc sz x.scan.length) S' ks' W (bestP_right sc sz _) hr
  clear HKx HRx HFx HGp HRr hgl
  generalize greedP sc sz x.scan.length = gp at *
  generalize bestP sc sz x.scan.length = bp at *
  unfold nmC at HR1 HGc HGr HP6 HP7 HB7 HR6
  go_upto_region 5 with (go_at_call 27; (with_reducible refine (HGc.out _ (Grew.refl _)).mono ?_); rintro e5 w5 ⟨A5, k5, rfl, hg5, ho5⟩; have HG5 := Lib.hid hg5; have HR5 := Lib.hid (own_rowI ho5); clear hg5 ho5)
  clear x0 m0 m1 m2 m3 m4 m5
  obtain ⟨x0, m0, m1, m2, m3, m4, m5⟩ := nm6 (HX.out.grew HG5.out)
  go_upto_region 7 with (first | (go_at_call 28; (with_reducible refine (HGr.out _ HG5.out).mono ?_); rintro e6 w6 ⟨A6, k6, rfl, hg6, hr6⟩; have HG6 := Lib.hid (HG5.out.trans hg6); have HR56 := Lib.hid (HR5.out.grew hg6); have HRg := Lib.hid hr6; clear hg6 hr6) | (go_at_call 24; (with_reducible refine (HSm.out _ _ _ _ _ HR56.out HRg.out).grows.mono ?_); rintro e7 w7 ⟨rfl, hg7⟩; have HG7 := Lib.hid (HG6.out.trans hg7); have HR57 := Lib.hid (HR56.out.grew hg7); clear hg7 HRg; clear x0 m0 m1 m2 m3 m4 m5; obtain ⟨x0, m0, m1, m2, m3, m4, m5⟩ := nm6 (HX.out.grew HG7.out)) | (go_at_call 20; (with_reducible refine (HR1.out _ _ _ HR57.out).grows.mono ?_); rintro ea wa ⟨rfl, hga⟩; have HGa := Lib.hid (HG7.out.trans hga); have HRa := Lib.hid (HR57.out.grew hga); clear hga))
  clear x0 m0 m1 m2 m3 m4 m5
  obtain ⟨x0, m0, m1, m2, m3, m4, m5⟩ := nm6 (HX.out.grew HGa.out)
  by_cases h6 : 6 < x.scan.length
  · have h6' : decide ((6 : Int) < (x.scan.length : Int)) = true := decide_eq_true (by omega)
    have HPc := Lib.hid (HP7.out h6)
    have HBc := Lib.hid (HB7.out h6)
    clear HP6 HP7 HB7 h6
    go_wp2_with (first | (go_at_call 26; (with_reducible refine (HPc.out _ HGa.out).mono ?_); rintro e8 w8 ⟨A8, k8, rfl, hg8, ho8⟩; have HG8 := Lib.hid (HGa.out.trans hg8); have HR58 := Lib.hid (HRa.out.grew hg8); have HR8 := Lib.hid (own_rowI ho8); clear hg8 ho8) | (go_at_call 24; (with_reducible refine (HSm.out _ _ _ _ _ HR8.out HR58.out).grows.mono ?_); rintro e9 w9 ⟨rfl, hg9⟩; have HG9 := Lib.hid (HG8.out.trans hg9); clear hg9; clear x0 m0 m1 m2 m3 m4 m5; obtain ⟨x0, m0, m1, m2, m3, m4, m5⟩ := nm6 (HX.out.grew HG9.out)) | (go_at_call 23; (with_reducible refine (HBc.out _).grows.mono ?_); rintro ec wc ⟨rfl, hgc⟩; have HGc2 := Lib.hid (HG9.out.trans hgc); clear hgc) | (go_at_call 18; (with_reducible refine (HLv.out _ (HG4.out.trans HGc2.out)).grows.mono ?_); rintro eb wb ⟨rfl, hgb⟩; have HGb := Lib.hid (HGc2.out.trans hgb); clear hgb))
    go_ret
    exact ⟨rfl, HG4.out.trans HGb.out⟩
  · have h6' : decide ((6 : Int) < (x.scan.length : Int)) = false := decide_eq_false (by omega)
    have HPc := Lib.hid (HP6.out (by omega))
    clear HP6 HP7 HB7 h6
    go_upto_region 9 with fail
    clear x0 m0 m1 m2 m3 m4 m5
    obtain ⟨W1, hW1⟩ : ∃ W1, W1 = wa.drew := ⟨_, rfl⟩
    have hS0 : Grew W4 W1 := by rw [hW1]; exact HGa.out.drew
    refine wp_region_S (fun W => Grew W4 W) (by kernel_rfl) ?_
    rw [← hW1]
    clear hW1
    refine held_take 0 (v := ?_) rfl (by kernel_rfl) (by kernel_rfl) (by kernel_rfl) (fun _ _ _ h => h) (by rfl) ?_ hS0 ?_; rotate_left; · (intro W hW; obtain ⟨x0, m0, m1, m2, m3, m4, m5⟩ := nm6 (HX.out.grew hW); go_simp; with_reducible rfl)
    refine held_take 1 (v := ?_) rfl (by kernel_rfl) (by kernel_rfl) (by kernel_rfl) (fun _ _ _ h => h) (by rfl) ?_ hS0 ?_; rotate_left; · (intro W hW; obtain ⟨x0, m0, m1, m2, m3, m4, m5⟩ := nm6 (HX.out.grew hW); go_simp; with_reducible rfl)
    refine held_take 2 (v := ?_) rfl (by kernel_rfl) (by kernel_rfl) (by kernel_rfl) (fun _ _ _ h => h) (by rfl) ?_ hS0 ?_; rotate_left; · (intro W hW; obtain ⟨x0, m0, m1, m2, m3, m4, m5⟩ := nm6 (HX.out.grew hW); go_simp; with_reducible rfl)
    refine held_norm (a' := ?_) ?_ ?_; rotate_left; · (go_simp; with_reducible rfl)
    refine held_call 3 (by kernel_rfl) rfl (by rfl) (fun K hK => ?_)
    go_simp
    go_wp2_with ((go_at_call 26; (with_reducible refine (HPc.out _ hS0).mono ?_); rintro e8 w8 ⟨A8, k8, rfl, hg8, ho8⟩; have hS8 := hS0.trans hg8))
    refine hK.out _ _ hS8 ?_
    clear hK K
    refine held_call 4 (by kernel_rfl) rfl (by rfl) (fun K hK => ?_)
    go_simp
    go_wp2_with ((go_at_call 20; (with_reducible refine (HR6.out _ _ _ (own_rowI ho8)).grows.mono ?_); rintro e9 w9 ⟨rfl, hg9⟩; have hS9 := hS8.trans hg9))
    refine hK.out _ _ hS9 ?_
    clear hK K
    refine held_take 5 (v := ?_) rfl (by kernel_rfl) (by kernel_rfl) (by kernel_rfl) (fun _ _ _ h => h) (by rfl) ?_ hS9 ?_; rotate_left; · (intro W hW; go_simp; with_reducible rfl)
    refine held_norm (a' := ?_) ?_ ?_; rotate_left; · (go_simp; with_reducible rfl)
    refine held_call 6 (by kernel_rfl) rfl (by rfl) (fun K hK => ?_)
    go_simp
    go_wp2_with ((go_at_call 18; (with_reducible refine (HLv.out _ (HG4.out.trans hS9)).grows.mono ?_); rintro eb wb ⟨rfl, hgb⟩; have hSb := hS9.trans hgb))
    refine hK.out _ _ hSb ?_
    clear hK K
    refine held_take 7 (v := ?_) rfl (by kernel_rfl) (by kernel_rfl) (by kernel_rfl) (fun _ _ _ h => h) (by rfl) ?_ hSb ?_; rotate_left; · (intro W hW; go_simp; with_reducible rfl)
    refine held_take 8 (v := ?_) rfl (by kernel_rfl) (by kernel_rfl) (by kernel_rfl) (fun _ _ _ h => h) (by rfl) ?_ hSb ?_; rotate_left; · (intro W hW; go_simp; with_reducible rfl)
    refine held_norm (a' := ?_) ?_ ?_; rotate_left; · (go_simp; with_reducible rfl)
    refine held_done (by kernel_rfl) ?_
    have HGf := Lib.hid (HG4.out.trans hSb)
    clear hS0 hS8 hS9 hSb hg8 hg9 hgb ho8
    go_wp2
    go_ret
    exact ⟨rfl, HGf.out⟩
end Go.Proofs.YtbglmcebkpkccaaGreatDoor
namespace Go.Proofs.YtbglmcebkpkccaaGreatDoor.orderGreedy
open Go.RowKit Go.ChangeShapes Go.WideShapes Go.ChangeAt Go.Joins
theorem reads : ∀ t ∈ Tryz.f6.params.toList, Tryz.prog.readableRec t = true ∧ t < Tryz.prog.types.size := by
  rw [Tryz.params6]
  intro t ht
  simp only [List.mem_cons, List.not_mem_nil, or_false] at ht
  rcases ht with rfl | rfl
  all_goals exact ⟨by kernel_rfl, of_decide_eq_true (by kernel_rfl)⟩
theorem door_met (os : Os) (args : Array Value) : laidMetH Tryz.prog Rows.orderGreedyRow.laid ((World.doorLaid Tryz.prog 600 os).forCall (fun _ _ => 0) ⟨#[], args, []⟩).memory :=
  laidMetH_of_parts3 (fuel := 8) (laidMet_of_run' 8 (by kernel_rfl) (by kernel_rfl)) (by kernel_rfl) (by kernel_rfl)
theorem of_laid {W : World} (h : laidMetH Tryz.prog Rows.orderGreedyRow.laid W) : Lib.TabIs Tryz.prog W "trommel/cost.turned" .i64 [0, 1, 2, 5, 6, 3, 4] := by
  rw [MakeChecks.laidMetH_plain _ _ _ (by kernel_rfl)] at h
  have h2 : laidMet Tryz.prog (("trommel/cost.turned", Lib.tabData .i64 [0, 1, 2, 5, 6, 3, 4]) :: []) W := h
  exact Lib.tabIs_of_head (g := 3) (t := 157) (e := 3) (n := 7) (by kernel_rfl) (by kernel_rfl) (by kernel_rfl) (by kernel_rfl) (by kernel_rfl) (by kernel_rfl) h2
set_option maxRecDepth 100000 in
theorem lifted (os : Os) (started : os.Started) (H : Type) (enc : TypeId × Value → H) :
    ReturnsInHanded {} Tryz.checked os 6 .any (fun w args => (Rows.orderGreedySpec.pre enc Tryz.prog Tryz.f6 [] false w args ∧ laidMetH Tryz.prog Rows.orderGreedyRow.laid w) ∧ sizedMet enc Tryz.prog Tryz.f6 (OpenSpec.ofChange Rows.orderGreedySpec) false w args)
      (Rows.orderGreedySpec.post enc Tryz.prog Tryz.f6 false true false false) := by
  refine returnsInHanded_of_change_and (C := Tryz.checked) (X := fun w _ => laidMetH Tryz.prog Rows.orderGreedyRow.laid w) (fun _ _ _ hh h => h.of_heap hh) own started (by kernel_rfl) Tryz.func6
    (ChangeSpec.witness_shaped (enc := enc) (C := Tryz.checked) (os := os) (X := fun w _ => laidMetH Tryz.prog Rows.orderGreedyRow.laid w) false (World.doorLaid Tryz.prog 600 os) #[.agg #[.slice none 0 0, .slice none 0 0, .int .i64 0, .string ByteArray.empty, .string ByteArray.empty, .int .i64 0, .int .i64 0, .int .i64 0, .int .i64 0, .string ByteArray.empty, .slice none 0 0, .slice none 0 0], .slice none 0 0] 8 rfl (World.shaped_of_RefB (by kernel_rfl) (by kernel_rfl)) (by kernel_rfl) (by kernel_rfl) (by kernel_rfl) (door_met os _)) ?_
  intro W base args ds gs before hval0 hW hcnd hsz0 hL _
  have hval : ∀ (j : Nat) t v, Tryz.f6.params[j]? = some t → args[j]? = some v → Value.okWide Tryz.prog W .any base t v := hval0
  have hW' := hW
  obtain ⟨p, q, hA0, hV, hpq, hfz, hnd⟩ := hW
  have hA : DataW.TrodAll enc Tryz.prog W 0 (fun _ => true) true Tryz.f6.params.toList args.toList ds p := hA0
  rw [Tryz.params6] at hA hval
  obtain ⟨v0, vs0, d0, ds0, p0, q0, hargs, rfl, rfl, h0, r0⟩ := trodAll_cons hA
  obtain ⟨v1, vs1, d1, ds1, p1, q1, rfl, rfl, rfl, h1, r1⟩ := trodAll_cons r0
  obtain ⟨rfl, rfl, rfl⟩ := trodAll_nil r1
  obtain rfl : args = #[v0, v1] := by cases args; simp_all
  obtain ⟨rfl, rfl⟩ := trodVars_none hV
  have hz : (DataW.weightsEach Tryz.prog [29, 30] [d0, d1]).all (· ≤ reachBytes) = true := hsz0
  simp only [DataW.weightsEach, List.all_append, List.append_nil, Bool.and_eq_true] at hz
  obtain ⟨zz0, zz1⟩ := hz
  obtain ⟨qcs, q, rfl, zq, qA, qk, qB, qj, qC, qc, qD, qd, eq, rq1, rq2, rq3, rq4⟩ := rd_arg Tryz.underlying29 rd_query (hval 0 29 v0 rfl rfl) h0
  obtain rfl : qcs = qyC q.items q.src q.wh q.group qA qk qB qj qC qc qD qd := Array.ext' (by rw [eq]; rfl)
  have o1 := rdw_arg_slice Tryz.underlying30 rdw_ssts (hval 1 30 v1 rfl rfl) h1 zz1
  obtain ⟨s, ⟨sA, sc, es, cs, rs⟩, ks⟩ := o1
  obtain rfl := List.cons.inj es |>.1
  have htab := of_laid hL
  refine (orderGreedy_walk q.items q.src q.wh q.group qA qk qB qj qC qc qD qd s sA sc W ks rq1 rq2 rq3 rq4 rs htab).mono fun e W' ⟨he, hg⟩ => ?_
  subst he
  exact ⟨_, rfl, law_post hW' rfl rfl Tryz.underlying4 rfl rfl rfl laid_out reads (Grew.below hg)⟩
theorem over : Rows.orderGreedyRow.holds Tryz.pinned (OpenSpec.ofChange Rows.orderGreedySpec) :=
  OpenClaim.holds_of_wide 6 Tryz.f6 rfl rfl rfl rfl rfl rfl rfl ⟨rfl, rfl, rfl, rfl, rfl⟩ rfl rfl rfl rfl rfl (by kernel_rfl) Tryz.func6 (by kernel_rfl)
    (of_decide_eq_true (by kernel_rfl)) (by unfold Func.isWrapper; first | (rw [if_pos (by decide +kernel)]; kernel_rfl) | (rw [if_neg (by decide +kernel)]; exact ⟨rfl, rfl⟩))
    (fun os started H enc _ => lifted os started H enc)
theorem proved : Rows.OrderGreedyCardSaid :=
  Claim7.holds_tied_plain_at .later [] [.data] true (true, "3803dd5eadb1622ac1cf9f762e3c69a7ba13d79eecce88738eed1112e3ea3d3e") false
    over (fun _ h => by cases h) (by kernel_rfl) (fun _ h => by cases h) orderGreedy_row_tie rfl ⟨rfl, rfl⟩ (by kernel_rfl) rfl
    (fun f fn hf hfn => by
      obtain rfl : f = 6 := Option.some.inj ((show Tryz.prog.funcNamed "trommel/trommellaw30.OrderGreedy" = some 6 by kernel_rfl).symm.trans hf) |>.symm
      obtain rfl : fn = Tryz.f6 := (Option.some.inj (Tryz.func6.symm.trans hfn)).symm
      exact ⟨by kernel_rfl, fun j t ht => by
        rw [Tryz.params6] at ht
        have hm : t ∈ [29, 30] := by simpa using Array.mem_of_getElem? ht
        have hall : ([29, 30].all fun u => !Tryz.prog.wantsStandIn u) = true := by kernel_rfl
        exact (show Tryz.prog.wantsStandIn t = false by simpa using List.all_eq_true.1 hall t hm)⟩)
    (by kernel_rfl)
end Go.Proofs.YtbglmcebkpkccaaGreatDoor.orderGreedy
