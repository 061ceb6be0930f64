/- Layer 18: the law of any numbers. No condition. -/
import Derived.Test.YthngafgblehpoaaBloom13
import Derived.Test.YthngafgblehpoaaTail2
namespace Go.Proofs.Ythngafgblehpoaa
open Go.RowKit
attribute [local go_sem] more_cell more_frozen more_more more_setCell more_of_drew more_of_drewN lt_more le_more past_cell past_cell2 past_frozen past_frozen2 past_setCell past_setCell2 mid_cell mid_frozen mid_setCell
attribute [local go_sem ↓] Go.wp_at_zero Go.wp_at_succ

theorem urow_at {w : World} {A : Option Addr} {l : List Nat} {j : Nat} (h : URow w A l) (hj : j < l.length) : ∃ b o, A = some ⟨b, o, none⟩ := by
  rcases h with h1 | ⟨b, o, hA, _⟩
  · rw [List.map_eq_nil_iff] at h1
    subst h1
    simp at hj
  · exact ⟨b, o, hA⟩
def GrowB (u : World) (n : Nat) (i : Value) (wr : World) : Prop := ∃ j : Nat, j ≤ n ∧ i = .int .i64 j ∧ Grew u wr
def CntAt (u : World) (ws : List Nat) (n : Nat) (v i : Value) (wr : World) : Prop := ∃ j : Nat, j ≤ 64 * n ∧ i = .int .i64 j ∧ v = .int .i64 ((B18.cntB (B18.bitL ws) j : Nat) : Int) ∧ Grew u wr
/-- A filter that has grown. -/
def AddF (w : World) (n k : Nat) (vs : List Nat) (e : Ending) (w' : World) : Prop := ∃ g c, e = .returned (.agg #[.slice (some ⟨g, 0, none⟩) n c, .int .i64 k]) ∧ Grew w w' ∧ URow w' (some ⟨g, 0, none⟩) vs
def RAddF (w : World) (n k : Nat) (vs : List Nat) (e : Ending) (w' : World) : Prop := ∃ g c, e = .returned (.agg #[.slice (some ⟨g, 0, none⟩) (64 * n) c, .int .i64 k]) ∧ Grew w w' ∧ BRow w' (some ⟨g, 0, none⟩) (B18.bitL vs)
theorem add_one (ws : List Nat) (k n g c x : Nat) (vs : List Nat) (hv : addN ws k x = vs) (hn : ws.length = n) (h0 : 0 < n) (hl : n ≤ 64) (hk : k ≤ 5) (hw : wordsOk ws) (hx : x < 18446744073709551616) (A : Option Addr) (w : World) (hr : URow w (some ⟨g, 0, none⟩) ws) (hrl : URow w A [x]) :
    Calls Try.prog 43 #[.agg #[.slice (some ⟨g, 0, none⟩) n c, .int .i64 k], .slice A 1 1] w (AddF w n k vs) := by
  refine (badd_any ws k n g c hn h0 (by omega) hk hw [x] A 1 (by simp) (fun y hy => by simp at hy; subst hy; exact hx) w hr hrl).mono ?_
  rintro e w' ⟨g2, c2, he, hG, hU⟩
  have h1 : addW ws k [x] = vs := hv
  rw [h1] at he hU
  have h2 : vs.length = n := by rw [← hv, addN_len, hn]
  rw [h2] at he
  exact ⟨g2, c2, he, hG, hU⟩
theorem radd_one (ws : List Nat) (k n g c x : Nat) (vs : List Nat) (hv : addN ws k x = vs) (hn : ws.length = n) (h0 : 0 < n) (hl : n ≤ 64) (hk : k ≤ 5) (hx : x < 18446744073709551616) (w : World) (hr : BRow w (some ⟨g, 0, none⟩) (B18.bitL ws)) :
    Calls Try.prog 44 #[.agg #[.slice (some ⟨g, 0, none⟩) (64 * n) c, .int .i64 k], .int .u64 x] w (RAddF w n k vs) := by
  refine (radd_b ws k x g c (64 * n) (by rw [hn]) (by omega) (by omega) hk hx w hr).mono ?_
  rintro e w' ⟨g2, c2, he, hG, hU⟩
  rw [hv] at he hU
  have h2 : vs.length = n := by rw [← hv, addN_len, hn]
  rw [B18.bitL_len, h2] at he
  exact ⟨g2, c2, he, hG, hU⟩
set_option maxHeartbeats 8000000 in
set_option maxRecDepth 100000 in
theorem bloomPlays_walk (wn bn : Int) (l : List Nat) (L : Option Addr) (d h : Nat) (hl64 : wordsOk l) (hh : h < 18446744073709551616) (w : World) (rl : URow w L l) :
    Gives Try.prog 8 #[.int .i64 wn, .int .i64 bn, .slice L l.length d, .int .u64 h] w (.bool true) := by
  unfold Gives
  by_cases hbig : 50 < l.length
  · clear rl
    go_enter Try.func8, Try.ntmps8
    go_wp2_with (first | (go_at_call 39; refine (live18_any _).mono ?_; rintro e w' ⟨rfl, x, rfl⟩))
    go_ret
    exact ⟨rfl, by (show Grew _ _; repeat (first | exact Grew.refl _ | refine Grew.alloc ?_ _ | refine Grew.drew ?_ | refine Grew.more ?_ _))⟩
  have hl50 : (l.length : Int) ≤ 50 := by omega
  by_cases hw64 : 64 < wn
  · by_cases hw4 : wn < 4096
    · clear rl
      go_enter Try.func8, Try.ntmps8
      go_wp2_with (first | (go_at_call 39; refine (live18_any _).mono ?_; rintro e w' ⟨rfl, x, rfl⟩))
      go_ret
      exact ⟨rfl, by (show Grew _ _; repeat (first | exact Grew.refl _ | refine Grew.alloc ?_ _ | refine Grew.drew ?_ | refine Grew.more ?_ _))⟩
    · have hc : clampN wn 4096 = 4096 := by unfold clampN; (repeat' split) <;> omega
      have HN : Hid (∀ W, Calls Try.prog 41 #[.int .i64 wn, .int .i64 bn] W (NewF W 4096 (clampN bn 5))) := Lib.hid fun W => bnew_to wn bn 4096 _ hc rfl W
      generalize clampN bn 5 = k at *
      clear rl hc hbig
      go_enter Try.func8, Try.ntmps8
      go_wp2_with fail
      refine (HN.out _).mono ?_
      rintro e w1 ⟨g, c, rfl, ⟨x1, rfl⟩, hU⟩
      go_wp2_with fail
      refine (words_to (List.replicate 4096 0) k 4096 g c (by simp) (by omega) (by omega) _ hU).mono ?_
      rintro e w2 ⟨g2, c2, rfl, hg2, hU2⟩
      have HG2 : Hid (Grew w w2) := Lib.hid (Grew.trans ⟨x1, rfl⟩ hg2)
      clear hg2 hU2 hU
      go_wp2_with (first | (go_at_call 39; refine (live18_any _).mono ?_; rintro e w' ⟨rfl, hl⟩))
      go_ret
      exact ⟨rfl, HG2.out.trans hl⟩
  have hw64' : wn ≤ 64 := by omega
  have hc := clamp_le wn 4096 (by decide)
  have hcn : clampN wn 4096 ≤ 64 := by unfold clampN; (repeat' split) <;> omega
  have hk5 := (clamp_le bn 5 (by decide)).1
  have HN : Hid (∀ W, Calls Try.prog 41 #[.int .i64 wn, .int .i64 bn] W (NewF W (clampN wn 4096) (clampN bn 5))) := Lib.hid fun W => bnew_to wn bn _ _ rfl rfl W
  have HRN : Hid (∀ W, Calls Try.prog 42 #[.int .i64 wn, .int .i64 bn] W (BFilt W (List.replicate (64 * clampN wn 4096) false) (clampN bn 5))) := Lib.hid fun W => rnew_b wn bn W
  have hc1 := hc.2
  clear hc
  generalize clampN wn 4096 = n at *
  generalize clampN bn 5 = k at *
  have RL := Lib.hid rl
  have HL64 := Lib.hid hl64
  clear rl hl64
  go_enter Try.func8, Try.ntmps8
  go_wp2_with fail
  refine (HN.out _).mono ?_
  rintro e w1 ⟨g, c, rfl, hg1, hU⟩
  have HG1 : Hid (Grew w w1) := Lib.hid hg1
  have HU := Lib.hid hU
  clear hg1 hU HN
  go_wp2_with fail
  refine (HRN.out _).mono ?_
  rintro e w2 ⟨g', c', rfl, hg2, hB⟩
  rw [List.length_replicate]
  have HD0 : Hid (Duo w ((w2.alloc (.cells #[.slice (some ⟨g, 0, none⟩) n c, .int .i64 k] 65)).alloc (.cells #[.slice (some ⟨g', 0, none⟩) (64 * n) c', .int .i64 k] 69)) 65 69 w2.heap.size (w2.heap.size + 1) n k (List.replicate n 0)) := Lib.hid (by
    have hgw : Grew w w2 := HG1.out.trans hg2
    have hs := hgw.size
    refine ⟨(hgw.alloc _).alloc _, hs, by omega, by omega, by simp, ⟨g, c, (Blok.new _ _ _ _ rfl).alloc _, ((HU.out.grew hg2).grew ((Grew.refl _).alloc _)).grew ((Grew.refl _).alloc _)⟩, ⟨g', c', Blok.new _ _ _ _ (by simp), ?_⟩⟩
    rw [B18.bitL_rep]
    exact (hB.grew ((Grew.refl _).alloc _)).grew ((Grew.refl _).alloc _))
  clear HU HG1 hg2 hB HRN
  go_upto_region 6 with fail
  generalize ((w2.alloc (.cells #[.slice (some ⟨g, 0, none⟩) n c, .int .i64 k] 65)).alloc (.cells #[.slice (some ⟨g', 0, none⟩) (64 * n) c', .int .i64 k] 69)) = w3 at *
  generalize w2.heap.size + 1 = g10 at *
  generalize w2.heap.size = g9 at *
  have HOK0 : Hid (wordsOk (List.replicate n 0)) := Lib.hid (ok_rep n)
  go_wp2_with fail
  go_loopw [11] (fun i wr => DuoAt w 65 69 g9 g10 n k l i wr) (fun i _ => l.length - (intOf i).toNat)
  case atStart => exact ⟨0, Nat.zero_le _, rfl, HD0.out⟩
  case round =>
    clear HD0
    obtain ⟨j, hj, rfl, hd⟩ := hrel
    have HD := Lib.hid hd
    clear hd
    by_cases hjl : j < l.length
    · obtain ⟨bb, oo, rfl⟩ := urow_at RL.out hjl
      have hok := addW_ok k (l.take j) HOK0.out
      have hx := HL64.out l[j] (List.getElem_mem hjl)
      have HT := Lib.hid (addW_take (List.replicate n 0) k l j hjl)
      have HX : Hid (∀ W, Grew w W → bb < W.heap.size ∧ W.cell? ⟨bb, oo + j, none⟩ = some (.int .u64 (l[j] : Int))) := Lib.hid fun W hW => urow_cell (RL.out.grew hW) hjl rfl
      generalize l[j] = x at *
      generalize addW (List.replicate n 0) k (l.take j) = cur at *
      obtain ⟨ga, ca, h1, h2⟩ := HD.out.one
      obtain ⟨gb, cb, h3, h4⟩ := HD.out.two
      have hcl := HD.out.len
      have HA : Hid (∀ W A, Grew wr W → URow W A [x] → Calls Try.prog 43 #[.agg #[.slice (some ⟨ga, 0, none⟩) n ca, .int .i64 k], .slice A 1 1] W (AddF W n k (addN cur k x))) := Lib.hid fun W A hW hA => add_one cur k n ga ca x _ rfl hcl (by omega) hcn hk5 hok hx A W (h2.grew hW) hA
      have HR : Hid (∀ W, Grew wr W → Calls Try.prog 44 #[.agg #[.slice (some ⟨gb, 0, none⟩) (64 * n) cb, .int .i64 k], .int .u64 x] W (RAddF W n k (addN cur k x))) := Lib.hid fun W hW => radd_one cur k n gb cb x _ rfl hcl (by omega) hcn hk5 hx W (h4.grew hW)
      have HS : Hid (∀ W, Grew wr W → (W.cell? ⟨g9, 0, none⟩ = some (.slice (some ⟨ga, 0, none⟩) n ca) ∧ W.cell? ⟨g9, 1, none⟩ = some (.int .i64 k)) ∧ (W.cell? ⟨g10, 0, none⟩ = some (.slice (some ⟨gb, 0, none⟩) (64 * n) cb) ∧ W.cell? ⟨g10, 1, none⟩ = some (.int .i64 k)) ∧ W.cell? ⟨bb, oo + j, none⟩ = some (.int .u64 x)) := Lib.hid fun W hW =>
        ⟨⟨(h1.grew hW).cell 0, (h1.grew hW).cell 1⟩, ⟨(h3.grew hW).cell 0, (h3.grew hW).cell 1⟩, (HX.out W (HD.out.grew.trans hW)).2⟩
      have HVL : Hid ((addN cur k x).length = n) := Lib.hid (by rw [addN_len, hcl])
      clear h1 h2 h3 h4 hok HX HOK0 hcl
      generalize addN cur k x = vs at *
      go_upto_region 9 with fail
      refine wp_region_tail (fun W => Grew wr W) 13 2 rfl (by kernel_rfl) ?_
      refine chain_take 0 (v := ?_) rfl (by kernel_rfl) (by kernel_rfl) (by kernel_rfl) (by kernel_rfl) (fun _ _ _ h => h) (by rfl) ?_ ((Grew.refl _).drew) ?_
      rotate_left
      · (intro W hW; obtain ⟨⟨q0, q1⟩, ⟨q2, q3⟩, q4⟩ := HS.out W hW; go_simp; with_reducible rfl)
      refine tail_norm (a' := ?_) ?_ ?_
      rotate_left
      · (go_simp; with_reducible rfl)
      refine chain_take 1 (v := ?_) rfl (by kernel_rfl) (by kernel_rfl) (by kernel_rfl) (by kernel_rfl) (fun _ _ _ h => h) (by rfl) ?_ ((Grew.refl _).drew) ?_
      rotate_left
      · (intro W hW; go_simp; with_reducible rfl)
      refine chain_take 2 (v := ?_) rfl (by kernel_rfl) (by kernel_rfl) (by kernel_rfl) (by kernel_rfl) (fun _ _ _ h => h) (by rfl) ?_ ((Grew.refl _).drew) ?_
      rotate_left
      · (intro W hW; go_simp; with_reducible rfl)
      refine chain_take 3 (v := ?_) rfl (by kernel_rfl) (by kernel_rfl) (by kernel_rfl) (by kernel_rfl) (fun _ _ _ h => h) (by rfl) ?_ ((Grew.refl _).drew) ?_
      rotate_left
      · (intro W hW; go_simp; with_reducible rfl)
      refine tail_norm (a' := ?_) ?_ ?_
      rotate_left
      · (go_simp; with_reducible rfl)
      refine chain_take 4 (v := ?_) rfl (by kernel_rfl) (by kernel_rfl) (by kernel_rfl) (by kernel_rfl) (fun _ _ _ h => h) (by rfl) ?_ ((Grew.refl _).drew) ?_
      rotate_left
      · (intro W hW; obtain ⟨⟨q0, q1⟩, ⟨q2, q3⟩, q4⟩ := HS.out W hW; go_simp; with_reducible rfl)
      refine tail_norm (a' := ?_) ?_ ?_
      rotate_left
      · (go_simp; with_reducible rfl)
      refine chain_take 7 (v := ?_) rfl (by kernel_rfl) (by kernel_rfl) (by kernel_rfl) (by kernel_rfl) (fun _ _ _ h => h) (by rfl) ?_ ((Grew.refl _).drew) ?_
      rotate_left
      · (intro W hW; obtain ⟨⟨q0, q1⟩, ⟨q2, q3⟩, q4⟩ := HS.out W hW; go_simp; with_reducible rfl)
      refine tail_norm (a' := ?_) ?_ ?_
      rotate_left
      · (go_simp; with_reducible rfl)
      refine chain_take 8 (v := ?_) rfl (by kernel_rfl) (by kernel_rfl) (by kernel_rfl) (by kernel_rfl) (fun _ _ _ h => h) (by rfl) ?_ ((Grew.refl _).drew) ?_
      rotate_left
      · (intro W hW; go_simp; with_reducible rfl)
      refine chain_take 9 (v := ?_) rfl (by kernel_rfl) (by kernel_rfl) (by kernel_rfl) (by kernel_rfl) (fun _ _ _ h => h) (by rfl) ?_ ((Grew.refl _).drew) ?_
      rotate_left
      · (intro W hW; go_simp; with_reducible rfl)
      refine chain_take 10 (v := ?_) rfl (by kernel_rfl) (by kernel_rfl) (by kernel_rfl) (by kernel_rfl) (fun _ _ _ h => h) (by rfl) ?_ ((Grew.refl _).drew) ?_
      rotate_left
      · (intro W hW; go_simp; with_reducible rfl)
      refine tail_norm (a' := ?_) ?_ ?_
      rotate_left
      · (go_simp; with_reducible rfl)
      refine chain_take 11 (v := ?_) rfl (by kernel_rfl) (by kernel_rfl) (by kernel_rfl) (by kernel_rfl) (fun _ _ _ h => h) (by rfl) ?_ ((Grew.refl _).drew) ?_
      rotate_left
      · (intro W hW; obtain ⟨⟨q0, q1⟩, ⟨q2, q3⟩, q4⟩ := HS.out W hW; go_simp; with_reducible rfl)
      refine tail_norm (a' := ?_) ?_ ?_
      rotate_left
      · (go_simp; with_reducible rfl)
      refine tail_call 5 (by kernel_rfl) (by kernel_rfl) rfl (by rfl) (fun K hK => ?_)
      go_simp
      go_wp2_with fail
      refine hK.out _ _ ((Grew.refl _).drew.alloc _) ?_
      clear hK K
      refine tail_call 6 (by kernel_rfl) (by kernel_rfl) rfl (by rfl) (fun K hK => ?_)
      go_simp
      go_wp2_with fail
      refine (HA.out _ _ (((Grew.refl _).alloc _).drew) (URow.grew (urow_one _ _ _ x rfl) ((Grew.refl _).drew))).mono ?_
      rintro e w5 ⟨g2, c2, rfl, hg5, hu5⟩
      have HG5 : Hid (Grew wr w5) := Lib.hid ((((Grew.refl _).alloc _).drew).trans hg5)
      have HU5 := Lib.hid hu5
      clear hg5 hu5 HA
      go_wp2_with fail
      refine hK.out _ _ HG5.out ?_
      clear hK K
      refine tail_call 12 (by kernel_rfl) (by kernel_rfl) rfl (by rfl) (fun K hK => ?_)
      go_simp
      go_wp2_with fail
      refine (HR.out _ HG5.out).mono ?_
      rintro e w6 ⟨g3, c3, rfl, hg6, hb6⟩
      have HU := Lib.hid (HU5.out.grew hg6)
      have HG := Lib.hid (HG5.out.trans hg6)
      have HB := Lib.hid hb6
      clear hg6 hb6 HU5 HG5 HR
      go_wp2_with fail
      refine hK.out _ _ HG.out ?_
      clear hK K
      refine tail_done (by kernel_rfl) ?_
      have HF := Lib.hid ((HD.out.on HG.out).store (c := c2) (c' := c3) HVL.out (by omega) HU.out HB.out).1
      obtain ⟨g4, c4, b1, -⟩ := (HD.out.on HG.out).one
      obtain ⟨g5, c5, b2, -⟩ := (HD.out.on HG.out).two
      have hne := HD.out.ne
      have H2 := Lib.hid (((b2.far (p := ⟨g9, 0, none⟩) hne.symm (.slice (some ⟨g2, 0, none⟩) n c2)).far (p := ⟨g9, 1, none⟩) hne.symm (.int .i64 k)))
      have p0 := b1.cell 0
      have p1 := b1.cell 1
      simp at p0 p1
      have p2 := b1.thaw 0
      have p3 := b1.thaw 1
      have p4 := b1.lt
      clear b1 b2 HS HG HU HB
      refine wpAny_ready (rs := [13]) (by kernel_rfl) (by simp) ?_
      refine AllReady.cons rfl (fun K hK => ?_) AllReady.nil
      have HK := Lib.hid hK
      clear hK
      go_simp
      refine HK.out _ _ ?_
      clear HK K p0 p1 p2 p3 p4
      generalize ((w6.setCell ⟨g9, 0, none⟩ (.slice (some ⟨g2, 0, none⟩) n c2)).setCell ⟨g9, 1, none⟩ (.int .i64 k)) = W at *
      have p0 := H2.out.cell 0
      have p1 := H2.out.cell 1
      simp at p0 p1
      have p2 := H2.out.thaw 0
      have p3 := H2.out.thaw 1
      have p4 := H2.out.lt
      refine wpAny_ready (rs := [14]) (by kernel_rfl) (by simp) ?_
      refine AllReady.cons rfl (fun K hK => ?_) AllReady.nil
      have HK := Lib.hid hK
      clear hK
      go_simp
      refine HK.out _ _ ?_
      clear HK K p0 p1 p2 p3 p4
      refine ⟨by kernel_rfl, ?_⟩
      generalize ((W.setCell ⟨g10, 0, none⟩ (.slice (some ⟨g3, 0, none⟩) (64 * n) c3)).setCell ⟨g10, 1, none⟩ (.int .i64 k)) = W at *
      go_wp2_with fail
      exact ⟨⟨j + 1, by omega, by go_num, by rw [HT.out]; exact HF.out⟩, by simp only [intOf]; omega⟩
    · obtain rfl : j = l.length := by omega
      obtain ⟨wq, hwq⟩ : ∃ wq : World, wq = wr := ⟨_, rfl⟩
      subst hwq
      have hok := addW_ok k (l.take l.length) HOK0.out
      have hcl := HD.out.len
      rw [List.take_length] at hok
      have hd := HD.out
      rw [List.take_length] at hd hcl
      generalize addW (List.replicate n 0) k l = cur at *
      obtain ⟨ga, ca, h1, h2⟩ := hd.one
      obtain ⟨gb, cb, h3, h4⟩ := hd.two
      have HS : Hid (∀ W, Grew wq W → (W.cell? ⟨g9, 0, none⟩ = some (.slice (some ⟨ga, 0, none⟩) n ca) ∧ W.cell? ⟨g9, 1, none⟩ = some (.int .i64 k)) ∧ (W.cell? ⟨g10, 0, none⟩ = some (.slice (some ⟨gb, 0, none⟩) (64 * n) cb) ∧ W.cell? ⟨g10, 1, none⟩ = some (.int .i64 k))) := Lib.hid fun W hW =>
        ⟨⟨(h1.grew hW).cell 0, (h1.grew hW).cell 1⟩, ⟨(h3.grew hW).cell 0, (h3.grew hW).cell 1⟩⟩
      have HU := Lib.hid h2
      have HB := Lib.hid h4
      have HGw := Lib.hid hd.grew
      have HOK := Lib.hid hok
      have B1 := Lib.hid h1
      have B2 := Lib.hid h3
      obtain ⟨⟨c0, c1⟩, ⟨c2, c3⟩⟩ := HS.out wq (Grew.refl _)
      clear hd h1 h2 h3 h4 HD HOK0 RL HL64 hok hjl hj
      go_upto_region 10 with fail
      go_wp2_with fail
      refine (words_to cur k n ga ca hcl (by omega) (by omega) _ HU.out).mono ?_
      rintro e w4 ⟨g6, c6, rfl, hg4, hu4⟩
      have HG4 : Hid (Grew wq w4) := Lib.hid hg4
      have HW := Lib.hid hu4
      clear c0 c1 c2 c3 hg4 hu4
      obtain ⟨⟨c0, c1⟩, ⟨c2, c3⟩⟩ := HS.out w4 HG4.out
      have b1 := (B1.out.grew HG4.out).lt
      have b2 := (B2.out.grew HG4.out).lt
      go_upto_region 11 with fail
      have t1 : ((64 * n : Nat) : Int).tdiv 64 = (n : Int) := by rw [Int.tdiv_eq_ediv_of_nonneg (by omega)]; omega
      have t2 : (64 * (n : Int)).tdiv 64 = (n : Int) := by rw [Int.tdiv_eq_ediv_of_nonneg (by omega)]; omega
      have t3 : IntKind.i64.wrap (n : Int) = (n : Int) := IntWalk.i64_in _ (by omega)
      have t4 : wrap64 (n : Int) = (n : Int) := IntWalk.wrap64_in _ (by omega)
      refine wp_region_more (by kernel_rfl) (by kernel_rfl) ?_
      repeat (go_big_quiet_step ((first | (go_at_call 45; exact (bits_val _ _ _ _ rfl _ _).within))))
      refine wpQuiet_nil ?_
      rintro _ ⟨z, rfl⟩
      go_upto_region 14 with fail
      have HG5 := Lib.hid (HG4.out.more z)
      have HW := Lib.hid (HW.out.grew ((Grew.refl w4).more z))
      clear c0 c1 c2 c3 b1 b2 t1 t2 t3 t4 HG4
      generalize more w4 z = w5 at *
      go_wp2_with fail
      go_loopw [14] (fun i wr => GrowB w5 n i wr) (fun i _ => n - (intOf i).toNat)
      case atStart => exact ⟨0, Nat.zero_le _, rfl, Grew.refl _⟩
      case round =>
        obtain ⟨j, hj, rfl, hg⟩ := hrel
        have HGJ := Lib.hid hg
        clear hg
        by_cases hjn : j < n
        · obtain ⟨hb6, d0⟩ := urow_cell (HW.out.grew HGJ.out) (show j < cur.length by omega) rfl
          rw [Nat.zero_add] at d0
          have hgd : cur.getD j 0 = cur[j]'(by omega) := by rw [List.getD_eq_getElem?_getD, List.getElem?_eq_getElem (by omega)]; rfl
          have HGq := Lib.hid (HG5.out.trans HGJ.out)
          have HWd : Hid (∀ W, Grew wr W → Gives Try.prog 46 #[.agg #[.slice (some ⟨gb, 0, none⟩) (64 * n) cb, .int .i64 k], .int .i64 j] W (.int .u64 ((cur[j]'(by omega) : Nat) : Int))) := Lib.hid fun W hW => rword_any cur k (64 * n) gb cb j (by rw [hcl]) (by omega) (by omega) HOK.out W (HB.out.grew (HGq.out.trans hW)) _ hgd
          obtain ⟨⟨c0, c1⟩, ⟨c2, c3⟩⟩ := HS.out wr HGq.out
          have b1 := (B1.out.grew HGq.out).lt
          have b2 := (B2.out.grew HGq.out).lt
          clear hgd
          generalize cur[j]'(by omega) = x at *
          go_wp2
          refine wp_region_more (by kernel_rfl) (by kernel_rfl) ?_
          repeat (go_big_quiet_step ((first | (go_at_call 46; exact (HWd.out _ ⟨_, rfl⟩).within))))
          refine wpQuiet_nil ?_
          rintro _ ⟨z, rfl⟩
          go_wp2_with fail
          exact ⟨⟨j + 1, by omega, by go_num, HGJ.out.more _⟩, by simp only [intOf]; omega⟩
        · obtain rfl : n = j := by omega
          have HGq := Lib.hid (HG5.out.trans HGJ.out)
          have HLB : Hid ((B18.bitL cur).length = 64 * n) := Lib.hid (by rw [B18.bitL_len, hcl])
          have HQ : Hid (B18.cntB (B18.bitL cur) (64 * n) = B18.onesW cur n) := Lib.hid (B18.onesW_is cur n (by omega))
          have HLe : Hid (∀ i, B18.cntB (B18.bitL cur) i ≤ i) := Lib.hid (B18.cntB_le _)
          have HN : Hid (∀ i, B18.cntB (B18.bitL cur) (i + 1) = B18.cntB (B18.bitL cur) i + if (B18.bitL cur)[i]? = some true then 1 else 0) := Lib.hid fun i => rfl
          clear HW HG5 HGJ hjn hj
          obtain ⟨wp, hwp⟩ : ∃ wp : World, wp = wr := ⟨_, rfl⟩
          subst hwp
          go_upto_region 19 with fail
          go_wp2_with fail
          go_loopw [13, 15] (fun v i wr => CntAt wp cur n v i wr) (fun _ i _ => 64 * n - (intOf i).toNat)
          case atStart => exact ⟨0, Nat.zero_le _, rfl, rfl, Grew.refl _⟩
          case round =>
            obtain ⟨j, hj, rfl, rfl, hg⟩ := hrel
            have HGJ := Lib.hid (HGq.out.trans hg)
            have HGl := Lib.hid hg
            clear hg
            obtain ⟨⟨c0, c1⟩, ⟨c2, c3⟩⟩ := HS.out wr HGJ.out
            have b1 := (B1.out.grew HGJ.out).lt
            have b2 := (B2.out.grew HGJ.out).lt
            by_cases hjn : j < 64 * n
            · have hle := HLe.out j
              have hs := HN.out j
              obtain ⟨t, ht⟩ : ∃ t, (B18.bitL cur)[j]? = some t := ⟨_, List.getElem?_eq_getElem (by rw [HLB.out]; exact hjn)⟩
              obtain ⟨hgl, d0⟩ := brow_cell (HB.out.grew HGJ.out) ht
              rw [Nat.zero_add] at d0
              rw [ht] at hs
              obtain ⟨v1, hv1⟩ : ∃ v1, B18.cntB (B18.bitL cur) (j + 1) = v1 := ⟨_, rfl⟩
              rw [hv1] at hs
              have HV1 := Lib.hid hv1
              have HSt := Lib.hid hs
              clear hs ht hv1 HN HLe HQ
              generalize B18.cntB (B18.bitL cur) j = v0 at *
              cases t
              · have h1 : v1 = v0 := by have := HSt.out; simpa using this
                go_wp2
                exact ⟨⟨j + 1, by omega, by go_num, by rw [HV1.out, h1], HGl.out⟩, by simp only [intOf]; omega⟩
              · have h1 : v1 = v0 + 1 := by have := HSt.out; simpa using this
                go_wp2
                exact ⟨⟨j + 1, by omega, by go_num, by rw [HV1.out, h1]; go_num, HGl.out⟩, by simp only [intOf]; omega⟩
            · obtain rfl : j = 64 * n := by omega
              rw [HQ.out]
              have HOn : Hid (∀ W, Grew wq W → Gives Try.prog 47 #[.agg #[.slice (some ⟨ga, 0, none⟩) n ca, .int .i64 k]] W (.int .i64 (B18.onesW cur n : Nat))) := Lib.hid fun W hW => ones_any cur k n ga ca hcl (by omega) HOK.out W (HU.out.grew hW)
              have HHa : Hid (∀ W, Grew wq W → Gives Try.prog 48 #[.agg #[.slice (some ⟨ga, 0, none⟩) n ca, .int .i64 k], .int .u64 h] W (.bool (hasN cur k h))) := Lib.hid fun W hW => bhas_to cur k h n ga ca hcl hh hk5 (by omega) (by omega) HOK.out _ rfl W (HU.out.grew hW)
              have HRh : Hid (∀ W, Grew wq W → Gives Try.prog 49 #[.agg #[.slice (some ⟨gb, 0, none⟩) (64 * n) cb, .int .i64 k], .int .u64 h] W (.bool (hasN cur k h))) := Lib.hid fun W hW => rhas_b cur k h gb cb (64 * n) (by rw [hcl]) (by omega) (by omega) hk5 hh _ rfl W (HB.out.grew hW)
              clear HQ HN HLe HW
              generalize hasN cur k h = tt at *
              generalize B18.onesW cur n = m at *
              go_upto_region 24 with fail
              cases tt
              all_goals
                refine wp_region_more (by kernel_rfl) (by kernel_rfl) ?_
                repeat (go_big_quiet_step ((first | (go_at_call 47; exact (HOn.out _ (HGJ.out.trans ⟨_, rfl⟩)).within) | (go_at_call 48; exact (HHa.out _ (HGJ.out.trans ⟨_, rfl⟩)).within) | (go_at_call 49; exact (HRh.out _ (HGJ.out.trans ⟨_, rfl⟩)).within) | (go_at_call 39; exact (live18_any _).within))))
                refine wpQuiet_nil ?_
                rintro _ ⟨z, rfl⟩
                go_wp2_with fail
                go_ret
                exact ⟨rfl, HGw.out.trans (HGJ.out.more _)⟩
end Go.Proofs.Ythngafgblehpoaa
