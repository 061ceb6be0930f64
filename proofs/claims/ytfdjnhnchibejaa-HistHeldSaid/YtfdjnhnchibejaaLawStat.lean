/- Layer 27: the law of what is held. Condition: what is said of a table, in memory that is there. -/
import Derived.Test.YtfdjnhnchibejaaStat6
import Derived.Test.YtfdjnhnchibejaaHist4
namespace Go.Proofs.Ytfdjnhnchibejaa
open Go.RowKit
attribute [local go_sem] more_cell more_frozen more_more more_setCell more_of_drew more_of_drewN lt_more le_more past_cell past_cell2 past_frozen past_frozen2 past_setCell past_setCell2 mid_cell mid_frozen mid_setCell
attribute [local go_sem ↓] Go.wp_at_zero Go.wp_at_succ
set_option maxHeartbeats 8000000 in
set_option maxRecDepth 100000 in
theorem histHeld_walk (s : Sst) (A : Option Addr) (k : Nat) (cols c : Int) (hlen : s.cols.length ≤ 1000000000000000) (w : World) (ra : CstsR (PRow w) A s.cols) :
    Gives Try.prog 6 #[.agg #[.int .i64 s.rows, .slice A s.cols.length k], .int .i64 cols, .int .i64 c] w (.bool true) := by
  have RA := Lib.hid ra
  have HMu := Lib.hid (fun W (hW : Grew w W) => rmuchS_any s.rows s.cols A k hlen W (ra.grew hW))
  have HH0 : Hid ((∀ x ∈ s.cols, x.m.length ≤ 60) → ∀ W, Grew w W → Calls Try.prog 46 #[.agg #[.int .i64 s.rows, .slice A s.cols.length k], .int .i64 cols] W (HeldF W (heldS s cols))) := Lib.hid fun h W hW => held27_any s A k cols (fun x hx => Nat.le_trans (h x hx) (by decide)) W (ra.grew hW)
  have HH20 : Hid (s.cols.length ≤ 30 → (∀ x ∈ s.cols, x.m.length ≤ 60) → ∀ W, Grew w W → Calls Try.prog 48 #[.agg #[.int .i64 s.rows, .slice A s.cols.length k], .int .i64 cols] W (HeldF W (heldS s cols))) := Lib.hid fun h0 h W hW => rheld27_any s A k cols (fun x hx => Nat.le_trans (h x hx) (by decide)) (by omega) W (ra.grew hW)
  have HRt10 : Hid ((∀ x ∈ s.cols, x.m.length ≤ 60) → ∀ W, Grew w W → Gives Try.prog 49 #[.agg #[.int .i64 s.rows, .slice A s.cols.length k], .int .i64 cols] W (.bool (decide (heldS s cols = s)))) := Lib.hid fun h W hW => right27_any s A k cols (fun x hx => Nat.le_trans (h x hx) (by decide)) W (ra.grew hW)
  have HCo0 : Hid ((∀ x ∈ s.cols, x.m.length ≤ 60) → ∀ W, Grew w W → Calls Try.prog 51 #[.agg #[.int .i64 s.rows, .slice A s.cols.length k], .int .i64 c] W (ColF W (colI s.cols c))) := Lib.hid fun h W hW => col_any s.rows s.cols A k c (fun x hx => Nat.le_trans (h x hx) (by decide)) W (ra.grew hW)
  have hP := heldP_small s (heldN cols)
  have hPl : (heldP s (heldN cols)).length ≤ 16 := by rw [heldP_len]; exact heldN_le cols
  have hTw := heldS_twice s cols
  obtain ⟨hs, hhs⟩ : ∃ hs, heldS s cols = hs := ⟨_, rfl⟩
  have hPe : heldP s (heldN cols) = hs.cols := by rw [← hhs]; rfl
  rw [hPe] at hP hPl
  rw [hhs] at HH0 HH20 HRt10 hTw
  obtain ⟨rc, lh⟩ := hs
  simp only at hP hPl
  have HSm1 : Hid (∀ W B j B2 j2, CstsR (PRow W) B lh → CstsR (PRow W) B2 lh → Gives Try.prog 47 #[.agg #[.int .i64 rc, .slice B lh.length j], .agg #[.int .i64 rc, .slice B2 lh.length j2]] W (.bool true)) := Lib.hid fun W B j B2 j2 h1 h2 => rsamestat_any rc rc lh lh B B2 j j2 (by omega) (fun x hx => Nat.le_trans (hP x hx) (by decide)) (fun x hx => Nat.le_trans (hP x hx) (by decide)) true (by simp) W h1 h2
  have HSm20 : Hid (s.cols.length ≤ 30 → (∀ x ∈ s.cols, x.m.length ≤ 60) → ∀ W B2 j2, Grew w W → CstsR (PRow W) B2 lh → Gives Try.prog 47 #[.agg #[.int .i64 s.rows, .slice A s.cols.length k], .agg #[.int .i64 rc, .slice B2 lh.length j2]] W (.bool (decide ((⟨rc, lh⟩ : Sst) = s)))) := Lib.hid fun h0 h W B2 j2 hW h2 =>
    rsamestat_any s.rows rc s.cols lh A B2 k j2 (by omega) (fun x hx => Nat.le_trans (h x hx) (by decide)) (fun x hx => Nat.le_trans (hP x hx) (by decide)) _ (by
      rw [decide_eq_true_iff]
      exact ⟨fun e => by rw [← e]; exact ⟨rfl, rfl⟩, fun e => Sst.ext' e.1.symm e.2.symm⟩) W (ra.grew hW) h2
  have HRt2 : Hid (∀ W B j, CstsR (PRow W) B lh → Gives Try.prog 49 #[.agg #[.int .i64 rc, .slice B lh.length j], .int .i64 cols] W (.bool true)) := Lib.hid fun W B j h1 => by
    have := right27_any ⟨rc, lh⟩ B j cols (fun x hx => Nat.le_trans (hP x hx) (by decide)) W h1
    rw [hTw, decide_eq_true rfl] at this
    exact this
  have HSC0 : Hid ((colI s.cols c).m.length ≤ 1000000000 → ∀ W B3 j3 D kd, Row W B3 (iV (colI s.cols c).m) → Row W D (iV (colI s.cols c).m) → Gives Try.prog 50 #[.agg #[.int .i64 (colI s.cols c).u, .int .i64 (colI s.cols c).n, .slice B3 (colI s.cols c).m.length j3], .agg #[.int .i64 (colI s.cols c).u, .int .i64 (colI s.cols c).n, .slice D (colI s.cols c).m.length kd]] W (.bool true)) := Lib.hid fun h W B3 j3 D kd h1 h2 => by
    have := rsamecol_any (colI s.cols c) (colI s.cols c) B3 D j3 kd h h W h1 h2
    rw [decide_eq_true rfl] at this
    exact this
  clear ra hP hPl hTw hhs hPe hlen
  obtain ⟨q, hq⟩ : ∃ q, decide ((⟨rc, lh⟩ : Sst) = s) = q := ⟨_, rfl⟩
  rw [hq] at HRt10 HSm20
  clear hq
  unfold Gives
  obtain ⟨W0, hW0⟩ : ∃ W0, W0 = w.alloc (.cells #[.int .i64 s.rows, .slice A s.cols.length k] 68) := ⟨_, rfl⟩
  have HG0 : Hid (Grew w W0) := Lib.hid (by rw [hW0]; exact (Grew.refl w).alloc _)
  have HB0 : Hid (Blok W0 w.heap.size 68 #[.int .i64 s.rows, .slice A s.cols.length k]) := Lib.hid (by rw [hW0]; exact Blok.new _ _ _ _ rfl)
  go_enter Try.func6, Try.ntmps6
  go_upto_region 1 with fail
  rw [← hW0]
  clear hW0
  generalize w.heap.size = g3 at *
  obtain ⟨x1, x2, x3⟩ := boxS HB0.out
  go_wp2_with fail
  refine (HMu.out _ HG0.out).mono ?_
  rintro e w1 ⟨t, rfl, hg1, h1⟩
  have HG1 := Lib.hid (HG0.out.trans hg1)
  have HB1 := Lib.hid (HB0.out.grew hg1)
  have HGood := Lib.hid h1
  clear x1 x2 x3 hg1 h1 HB0 HG0 HMu
  cases t
  rotate_left
  · clear HH0 HH20 HRt10 HCo0 HSm1 HSm20 HRt2 HSC0 HGood
    go_wp2_with (first | (go_at_call 45; (with_reducible refine (live27_any _).grows.mono ?_); rintro e w6 ⟨rfl, hg6⟩; have G6 := Lib.hid hg6; clear hg6))
    go_ret
    exact ⟨rfl, HG1.out.trans G6.out⟩
  obtain ⟨h30, h60⟩ := HGood.out rfl
  have HH1 := Lib.hid (HH0.out h60)
  have HH2 := Lib.hid (HH20.out h30 h60)
  have HRt1 := Lib.hid (HRt10.out h60)
  have HCo1 := Lib.hid (HCo0.out h60)
  have HSm2 := Lib.hid (HSm20.out h30 h60)
  have HCm : Hid ((colI s.cols c).m.length ≤ 1000000000) := Lib.hid (by
    unfold colI
    split
    · rw [List.getD_eq_getElem?_getD]
      cases h : s.cols[c.toNat]? with
      | none => exact Nat.zero_le _
      | some x => exact Nat.le_trans (h60 x (List.mem_of_getElem? h)) (by decide)
    · exact Nat.zero_le _)
  have HSC1 := Lib.hid (HSC0.out HCm.out)
  clear HH0 HH20 HRt10 HCo0 HSm20 HSC0 HGood h60 HCm
  obtain ⟨x1, x2, x3⟩ := boxS HB1.out
  go_wp2_with fail
  refine (HH1.out _ HG1.out).mono ?_
  rintro e w2 ⟨B, j, rfl, hg2, hr2⟩
  simp only at hr2 ⊢
  have HG2 := Lib.hid (HG1.out.trans hg2)
  have HB2 := Lib.hid (HB1.out.grew hg2)
  have HRb := Lib.hid hr2
  clear x1 x2 x3 hg2 hr2 HB1 HG1 HH1
  go_upto_region 5 with fail
  obtain ⟨w5, hw5⟩ : ∃ w5, w5 = (w2.alloc (.cells #[.int .i64 rc, .slice B lh.length j] 68)).alloc (.cells #[.int .i64 0, .int .i64 0, .slice none 0 0] 72) := ⟨_, rfl⟩
  have hgw5 : Grew w2 w5 := by rw [hw5]; exact ((Grew.refl w2).alloc _).alloc _
  have HB3' := Lib.hid (HB2.out.grew hgw5)
  have HB7' : Hid (Blok w5 w2.heap.size 68 #[.int .i64 rc, .slice B lh.length j]) := Lib.hid (by rw [hw5]; exact (Blok.new _ _ _ _ rfl).alloc _)
  have HB8' : Hid (Blok w5 (w2.heap.size + 1) 72 #[.int .i64 0, .int .i64 0, .slice none 0 0]) := Lib.hid (by rw [hw5]; exact Blok.new _ _ _ _ (by simp))
  have HG5 := Lib.hid (HG2.out.trans hgw5)
  have HGw1 := HG2
  have HGw := Lib.hid hgw5
  have hl2 : w.heap.size ≤ w2.heap.size := by
    have := HG2.out.size
    exact this
  have h37 : g3 < w2.heap.size := HB2.out.lt
  rw [← hw5]
  clear hw5 hgw5 HB2 HG2
  generalize hg8 : w2.heap.size + 1 = g8 at *
  generalize hg7 : w2.heap.size = g7 at *
  by_cases hin : 0 ≤ c ∧ c < s.cols.length
  · obtain ⟨i, rfl⟩ : ∃ i : Nat, c = i := ⟨c.toNat, by omega⟩
    have h2 : i < s.cols.length := by omega
    obtain ⟨b, o, D, kd, rfl, hb0, d0, d1, d2, hcap, hr⟩ := cstsR_at RA.out h2
    have hgw := HG5.out
    have hb := Nat.lt_of_lt_of_le hb0 hgw.size
    have c0 := (hgw.cell (a := ⟨b, o + i * 3, none⟩) hb0).trans d0
    have c1 := (hgw.cell (a := ⟨b, o + i * 3 + 1, none⟩) hb0).trans d1
    have c2 := (hgw.cell (a := ⟨b, o + i * 3 + 2, none⟩) hb0).trans d2
    have hX : colI s.cols i = s.cols[i] := by
      unfold colI
      rw [if_pos (by omega), Int.toNat_natCast, List.getD_eq_getElem?_getD, List.getElem?_eq_getElem h2]
      rfl
    rw [hX] at HCo1 HSC1
    have HRw := Lib.hid (fun W (hW : Grew w W) => hr.grew hW)
    clear hX d0 d1 d2 hb0 hr hgw RA
    generalize s.cols[i] = x at *
    obtain ⟨u, n, m⟩ := x
    simp only at *
    have hc0 : (0 : Int) ≤ i := by omega
    have hc1 : (i : Int) < s.cols.length := by omega
    obtain ⟨x1, x2, x3⟩ := boxS HB3'.out
    obtain ⟨y1, y2, y3, y4, y5, y6, y7⟩ := boxC HB8'.out
    go_upto_region 7 with fail
    have HB8 : Hid (Blok (((w5.setCell ⟨g8, 0, none⟩ (.int .i64 u)).setCell ⟨g8, 1, none⟩ (.int .i64 n)).setCell ⟨g8, 2, none⟩ (.slice D m.length kd)) g8 72 #[.int .i64 u, .int .i64 n, .slice D m.length kd]) := Lib.hid (by
      have := ((HB8'.out.set 0 (.int .i64 u)).set 1 (.int .i64 n)).set 2 (.slice D m.length kd)
      simpa using this)
    have HGw2 : Hid (Grew w2 (((w5.setCell ⟨g8, 0, none⟩ (.int .i64 u)).setCell ⟨g8, 1, none⟩ (.int .i64 n)).setCell ⟨g8, 2, none⟩ (.slice D m.length kd))) := Lib.hid (Grew.setCell (Grew.setCell (Grew.setCell HGw.out (a := ⟨g8, 0, none⟩) (by show w2.heap.size ≤ g8; omega) _) (a := ⟨g8, 1, none⟩) (by show w2.heap.size ≤ g8; omega) _) (a := ⟨g8, 2, none⟩) (by show w2.heap.size ≤ g8; omega) _)
    have HB3 : Hid (Blok (((w5.setCell ⟨g8, 0, none⟩ (.int .i64 u)).setCell ⟨g8, 1, none⟩ (.int .i64 n)).setCell ⟨g8, 2, none⟩ (.slice D m.length kd)) g3 68 #[.int .i64 s.rows, .slice (some ⟨b, o, none⟩) s.cols.length k]) := Lib.hid (((HB3'.out.far (p := ⟨g8, 0, none⟩) (by show g3 ≠ g8; omega) _).far (p := ⟨g8, 1, none⟩) (by show g3 ≠ g8; omega) _).far (p := ⟨g8, 2, none⟩) (by show g3 ≠ g8; omega) _)
    have HB7 : Hid (Blok (((w5.setCell ⟨g8, 0, none⟩ (.int .i64 u)).setCell ⟨g8, 1, none⟩ (.int .i64 n)).setCell ⟨g8, 2, none⟩ (.slice D m.length kd)) g7 68 #[.int .i64 rc, .slice B lh.length j]) := Lib.hid (((HB7'.out.far (p := ⟨g8, 0, none⟩) (by show g7 ≠ g8; omega) _).far (p := ⟨g8, 1, none⟩) (by show g7 ≠ g8; omega) _).far (p := ⟨g8, 2, none⟩) (by show g7 ≠ g8; omega) _)
    clear HB8' HB3' HB7' HGw HG5 c0 c1 c2 x1 x2 x3 y1 y2 y3 y4 y5 y6 y7 hb hin
    generalize (((w5.setCell ⟨g8, 0, none⟩ (.int .i64 u)).setCell ⟨g8, 1, none⟩ (.int .i64 n)).setCell ⟨g8, 2, none⟩ (.slice D m.length kd)) = wx at *
    have HGx := Lib.hid (HGw1.out.trans HGw2.out)
    have HRB := Lib.hid (HRb.out.grew HGw2.out)
    have HRD := Lib.hid (HRw.out _ HGx.out)
    have HCo := HCo1
    have HSC := HSC1
    clear HCo1 HSC1 HRb HRw HGw2 HGw1
    refine wp_region_S (fun W => Grew wx W) (by kernel_rfl) ?_
    refine held_take 0 (v := ?_) rfl (by kernel_rfl) (by kernel_rfl) (by kernel_rfl) (fun _ _ _ h => h) (by rfl) ?_ (Grew.refl _).drew ?_
    rotate_left
    · (intro W hW; obtain ⟨bl, b0, b1⟩ := boxS (HB7.out.grew hW); go_simp; with_reducible rfl)
    refine held_norm (a' := ?_) ?_ ?_
    rotate_left
    · (go_simp; with_reducible rfl)
    refine held_take 1 (v := ?_) rfl (by kernel_rfl) (by kernel_rfl) (by kernel_rfl) (fun _ _ _ h => h) (by rfl) ?_ (Grew.refl _).drew ?_
    rotate_left
    · (intro W hW; obtain ⟨al, a0, a1⟩ := boxS (HB3.out.grew hW); go_simp; with_reducible rfl)
    refine held_norm (a' := ?_) ?_ ?_
    rotate_left
    · (go_simp; with_reducible rfl)
    refine held_take 2 (v := ?_) rfl (by kernel_rfl) (by kernel_rfl) (by kernel_rfl) (fun _ _ _ h => h) (by rfl) ?_ (Grew.refl _).drew ?_
    rotate_left
    · (intro W hW; go_simp; with_reducible rfl)
    refine held_norm (a' := ?_) ?_ ?_
    rotate_left
    · (go_simp; with_reducible rfl)
    refine held_call 3 (by kernel_rfl) rfl (by rfl) (fun K hK => ?_)
    go_simp
    (with_reducible refine (HH2.out _ (HGx.out.trans ((Grew.refl _).drew))).mono ?_)
    rintro e y1 ⟨B2, j2, rfl, hgx, hr2⟩
    have K1 : Hid (Grew wx y1) := Lib.hid (Grew.trans ((Grew.refl _).drew) hgx)
    have HR2 := Lib.hid hr2; clear hr2
    clear hgx
    go_wp2
    refine hK.out _ _ K1.out ?_
    clear hK K
    refine held_call 4 (by kernel_rfl) rfl (by rfl) (fun K hK => ?_)
    go_simp
    (with_reducible refine (HSm1.out _ _ _ _ _ (HRB.out.grew (K1.out)) HR2.out).grows.mono ?_)
    rintro e y2 ⟨rfl, hgx⟩
    have K2 : Hid (Grew wx y2) := Lib.hid (Grew.trans (K1.out) hgx)
    clear hgx
    go_wp2
    refine hK.out _ _ K2.out ?_
    clear hK K
    refine held_take 5 (v := ?_) rfl (by kernel_rfl) (by kernel_rfl) (by kernel_rfl) (fun _ _ _ h => h) (by rfl) ?_ K2.out ?_
    rotate_left
    · (intro W hW; go_simp; with_reducible rfl)
    refine held_norm (a' := ?_) ?_ ?_
    rotate_left
    · (go_simp; with_reducible rfl)
    refine held_take 6 (v := ?_) rfl (by kernel_rfl) (by kernel_rfl) (by kernel_rfl) (fun _ _ _ h => h) (by rfl) ?_ K2.out ?_
    rotate_left
    · (intro W hW; obtain ⟨al, a0, a1⟩ := boxS (HB3.out.grew hW); go_simp; with_reducible rfl)
    refine held_norm (a' := ?_) ?_ ?_
    rotate_left
    · (go_simp; with_reducible rfl)
    refine held_take 7 (v := ?_) rfl (by kernel_rfl) (by kernel_rfl) (by kernel_rfl) (fun _ _ _ h => h) (by rfl) ?_ K2.out ?_
    rotate_left
    · (intro W hW; go_simp; with_reducible rfl)
    refine held_norm (a' := ?_) ?_ ?_
    rotate_left
    · (go_simp; with_reducible rfl)
    refine held_take 9 (v := ?_) rfl (by kernel_rfl) (by kernel_rfl) (by kernel_rfl) (fun _ _ _ h => h) (by rfl) ?_ K2.out ?_
    rotate_left
    · (intro W hW; obtain ⟨al, a0, a1⟩ := boxS (HB3.out.grew hW); go_simp; with_reducible rfl)
    refine held_norm (a' := ?_) ?_ ?_
    rotate_left
    · (go_simp; with_reducible rfl)
    refine held_take 10 (v := ?_) rfl (by kernel_rfl) (by kernel_rfl) (by kernel_rfl) (fun _ _ _ h => h) (by rfl) ?_ K2.out ?_
    rotate_left
    · (intro W hW; obtain ⟨al, a0, a1⟩ := boxS (HB3.out.grew hW); go_simp; with_reducible rfl)
    refine held_norm (a' := ?_) ?_ ?_
    rotate_left
    · (go_simp; with_reducible rfl)
    refine held_take 11 (v := ?_) rfl (by kernel_rfl) (by kernel_rfl) (by kernel_rfl) (fun _ _ _ h => h) (by rfl) ?_ K2.out ?_
    rotate_left
    · (intro W hW; go_simp; with_reducible rfl)
    refine held_norm (a' := ?_) ?_ ?_
    rotate_left
    · (go_simp; with_reducible rfl)
    refine held_call 8 (by kernel_rfl) rfl (by rfl) (fun K hK => ?_)
    go_simp
    (with_reducible refine (HRt1.out _ (HGx.out.trans (K2.out))).grows.mono ?_)
    rintro e y3 ⟨rfl, hgx⟩
    have K3 : Hid (Grew wx y3) := Lib.hid (Grew.trans (K2.out) hgx)
    clear hgx
    go_wp2
    refine hK.out _ _ K3.out ?_
    clear hK K
    refine held_call 12 (by kernel_rfl) rfl (by rfl) (fun K hK => ?_)
    go_simp
    (with_reducible refine (HH2.out _ (HGx.out.trans (K3.out))).mono ?_)
    rintro e y4 ⟨B4, j4, rfl, hgx, hr4⟩
    have K4 : Hid (Grew wx y4) := Lib.hid (Grew.trans (K3.out) hgx)
    have HR4 := Lib.hid hr4; clear hr4
    clear hgx
    go_wp2
    refine hK.out _ _ K4.out ?_
    clear hK K
    refine held_call 13 (by kernel_rfl) rfl (by rfl) (fun K hK => ?_)
    go_simp
    (with_reducible refine (HSm2.out _ _ _ (HGx.out.trans (K4.out)) HR4.out).grows.mono ?_)
    rintro e y5 ⟨rfl, hgx⟩
    have K5 : Hid (Grew wx y5) := Lib.hid (Grew.trans (K4.out) hgx)
    clear hgx
    go_wp2
    refine hK.out _ _ K5.out ?_
    clear hK K
    refine held_take 14 (v := ?_) rfl (by kernel_rfl) (by kernel_rfl) (by kernel_rfl) (fun _ _ _ h => h) (by rfl) ?_ K5.out ?_
    rotate_left
    · (intro W hW; go_simp; with_reducible rfl)
    refine held_norm (a' := ?_) ?_ ?_
    rotate_left
    · (go_simp; with_reducible rfl)
    refine held_take 15 (v := ?_) rfl (by kernel_rfl) (by kernel_rfl) (by kernel_rfl) (fun _ _ _ h => h) (by rfl) ?_ K5.out ?_
    rotate_left
    · (intro W hW; go_simp; with_reducible rfl)
    refine held_norm (a' := ?_) ?_ ?_
    rotate_left
    · (go_simp; with_reducible rfl)
    refine held_take 16 (v := ?_) rfl (by kernel_rfl) (by kernel_rfl) (by kernel_rfl) (fun _ _ _ h => h) (by rfl) ?_ K5.out ?_
    rotate_left
    · (intro W hW; go_simp; with_reducible rfl)
    refine held_norm (a' := ?_) ?_ ?_
    rotate_left
    · (go_simp; with_reducible rfl)
    refine held_take 17 (v := ?_) rfl (by kernel_rfl) (by kernel_rfl) (by kernel_rfl) (fun _ _ _ h => h) (by rfl) ?_ K5.out ?_
    rotate_left
    · (intro W hW; obtain ⟨bl, b0, b1⟩ := boxS (HB7.out.grew hW); go_simp; with_reducible rfl)
    refine held_norm (a' := ?_) ?_ ?_
    rotate_left
    · (go_simp; with_reducible rfl)
    refine held_take 18 (v := ?_) rfl (by kernel_rfl) (by kernel_rfl) (by kernel_rfl) (fun _ _ _ h => h) (by rfl) ?_ K5.out ?_
    rotate_left
    · (intro W hW; go_simp; with_reducible rfl)
    refine held_norm (a' := ?_) ?_ ?_
    rotate_left
    · (go_simp; with_reducible rfl)
    refine held_call 19 (by kernel_rfl) rfl (by rfl) (fun K hK => ?_)
    go_simp
    (with_reducible refine (HRt2.out _ _ _ (HRB.out.grew (K5.out))).grows.mono ?_)
    rintro e y6 ⟨rfl, hgx⟩
    have K6 : Hid (Grew wx y6) := Lib.hid (Grew.trans (K5.out) hgx)
    clear hgx
    go_wp2
    refine hK.out _ _ K6.out ?_
    clear hK K
    refine held_take 20 (v := ?_) rfl (by kernel_rfl) (by kernel_rfl) (by kernel_rfl) (fun _ _ _ h => h) (by rfl) ?_ K6.out ?_
    rotate_left
    · (intro W hW; go_simp; with_reducible rfl)
    refine held_norm (a' := ?_) ?_ ?_
    rotate_left
    · (go_simp; with_reducible rfl)
    refine held_take 21 (v := ?_) rfl (by kernel_rfl) (by kernel_rfl) (by kernel_rfl) (fun _ _ _ h => h) (by rfl) ?_ K6.out ?_
    rotate_left
    · (intro W hW; go_simp; with_reducible rfl)
    refine held_norm (a' := ?_) ?_ ?_
    rotate_left
    · (go_simp; with_reducible rfl)
    refine held_take 22 (v := ?_) rfl (by kernel_rfl) (by kernel_rfl) (by kernel_rfl) (fun _ _ _ h => h) (by rfl) ?_ K6.out ?_
    rotate_left
    · (intro W hW; obtain ⟨al, a0, a1⟩ := boxS (HB3.out.grew hW); go_simp; with_reducible rfl)
    refine held_norm (a' := ?_) ?_ ?_
    rotate_left
    · (go_simp; with_reducible rfl)
    refine held_take 23 (v := ?_) rfl (by kernel_rfl) (by kernel_rfl) (by kernel_rfl) (fun _ _ _ h => h) (by rfl) ?_ K6.out ?_
    rotate_left
    · (intro W hW; go_simp; with_reducible rfl)
    refine held_norm (a' := ?_) ?_ ?_
    rotate_left
    · (go_simp; with_reducible rfl)
    refine held_take 25 (v := ?_) rfl (by kernel_rfl) (by kernel_rfl) (by kernel_rfl) (fun _ _ _ h => h) (by rfl) ?_ K6.out ?_
    rotate_left
    · (intro W hW; obtain ⟨cl, c0, c1, c2, _, _, _⟩ := boxC (HB8.out.grew hW); go_simp; with_reducible rfl)
    refine held_norm (a' := ?_) ?_ ?_
    rotate_left
    · (go_simp; with_reducible rfl)
    refine held_call 24 (by kernel_rfl) rfl (by rfl) (fun K hK => ?_)
    go_simp
    (with_reducible refine (HCo.out _ (HGx.out.trans (K6.out))).mono ?_)
    rintro e y7 ⟨B5, j5, rfl, hgx, ho5⟩
    have K7 : Hid (Grew wx y7) := Lib.hid (Grew.trans (K6.out) hgx)
    have HR5 := Lib.hid (own_rowI ho5); clear ho5
    clear hgx
    go_wp2
    refine hK.out _ _ K7.out ?_
    clear hK K
    refine held_call 26 (by kernel_rfl) rfl (by rfl) (fun K hK => ?_)
    go_simp
    (with_reducible refine (HSC.out _ _ _ _ _ HR5.out (HRD.out.grew (K7.out))).grows.mono ?_)
    rintro e y8 ⟨rfl, hgx⟩
    have K8 : Hid (Grew wx y8) := Lib.hid (Grew.trans (K7.out) hgx)
    clear hgx
    go_wp2
    refine hK.out _ _ K8.out ?_
    clear hK K
    refine held_take 27 (v := ?_) rfl (by kernel_rfl) (by kernel_rfl) (by kernel_rfl) (fun _ _ _ h => h) (by rfl) ?_ K8.out ?_
    rotate_left
    · (intro W hW; go_simp; with_reducible rfl)
    refine held_norm (a' := ?_) ?_ ?_
    rotate_left
    · (go_simp; with_reducible rfl)
    refine held_take 28 (v := ?_) rfl (by kernel_rfl) (by kernel_rfl) (by kernel_rfl) (fun _ _ _ h => h) (by rfl) ?_ K8.out ?_
    rotate_left
    · (intro W hW; go_simp; with_reducible rfl)
    refine held_norm (a' := ?_) ?_ ?_
    rotate_left
    · (go_simp; with_reducible rfl)
    refine held_call 29 (by kernel_rfl) rfl (by rfl) (fun K hK => ?_)
    go_simp
    (with_reducible refine (live27_any _).grows.mono ?_)
    rintro e y9 ⟨rfl, hgx⟩
    have K9 : Hid (Grew wx y9) := Lib.hid (Grew.trans (K8.out) hgx)
    clear hgx
    go_wp2
    refine hK.out _ _ K9.out ?_
    clear hK K
    refine held_take 30 (v := ?_) rfl (by kernel_rfl) (by kernel_rfl) (by kernel_rfl) (fun _ _ _ h => h) (by rfl) ?_ K9.out ?_
    rotate_left
    · (intro W hW; go_simp; with_reducible rfl)
    refine held_norm (a' := ?_) ?_ ?_
    rotate_left
    · (go_simp; with_reducible rfl)
    refine held_take 31 (v := ?_) rfl (by kernel_rfl) (by kernel_rfl) (by kernel_rfl) (fun _ _ _ h => h) (by rfl) ?_ K9.out ?_
    rotate_left
    · (intro W hW; go_simp; with_reducible rfl)
    refine held_norm (a' := ?_) ?_ ?_
    rotate_left
    · (go_simp; with_reducible rfl)
    refine held_done (by kernel_rfl) ?_
    go_wp2
    go_ret
    exact ⟨rfl, HGx.out.trans K9.out⟩
  · have hX : colI s.cols c = ⟨0, 0, []⟩ := by
      unfold colI
      split
      · rw [List.getD_eq_getElem?_getD, List.getElem?_eq_none (by omega)]
        rfl
      · rfl
    rw [hX] at HCo1 HSC1
    have HCo' : Hid (∀ W, Grew w W → Calls Try.prog 51 #[.agg #[.int .i64 s.rows, .slice A s.cols.length k], .int .i64 c] W (ColF W ⟨0, 0, []⟩)) := HCo1
    have HGx := HG5
    have HB3 := HB3'
    have HB7 := HB7'
    have HRB := Lib.hid (HRb.out.grew HGw.out)
    obtain ⟨x1, x2, x3⟩ := boxS HB3.out
    have hcase : (c < 0) ∨ (0 ≤ c ∧ (s.cols.length : Int) ≤ c) := by omega
    have HC0 := Lib.hid hcase
    clear HB3' HB7' HG5 HRb HCo1 RA hX hin hcase
    obtain ⟨u, n, m, D, kd, HB8, HCo, HSC, HRD⟩ : ∃ (u n : Int) (m : List Int) (D : Option Addr) (kd : Nat), ∃ (_ : Hid (Blok w5 g8 72 #[.int .i64 u, .int .i64 n, .slice D m.length kd])) (_ : Hid (∀ W, Grew w W → Calls Try.prog 51 #[.agg #[.int .i64 s.rows, .slice A s.cols.length k], .int .i64 c] W (ColF W ⟨u, n, m⟩))) (_ : Hid (∀ W B3 j3 D kd, Row W B3 (iV m) → Row W D (iV m) → Gives Try.prog 50 #[.agg #[.int .i64 u, .int .i64 n, .slice B3 m.length j3], .agg #[.int .i64 u, .int .i64 n, .slice D m.length kd]] W (.bool true))), Hid (Row w5 D (iV m)) :=
      ⟨0, 0, [], none, 0, HB8', HCo', HSC1, Lib.hid (Or.inl rfl)⟩
    clear HB8' HCo' HSC1 HGw
    rcases HC0.out with hc | ⟨hc, hc2⟩
    · go_upto_region 7 with fail
      clear HC0 x1 x2 x3
      obtain ⟨wx, rfl⟩ : ∃ wx : World, wx = w5 := ⟨_, rfl⟩
      refine wp_region_S (fun W => Grew wx W) (by kernel_rfl) ?_
      refine held_take 0 (v := ?_) rfl (by kernel_rfl) (by kernel_rfl) (by kernel_rfl) (fun _ _ _ h => h) (by rfl) ?_ (Grew.refl _).drew ?_
      rotate_left
      · (intro W hW; obtain ⟨bl, b0, b1⟩ := boxS (HB7.out.grew hW); go_simp; with_reducible rfl)
      refine held_norm (a' := ?_) ?_ ?_
      rotate_left
      · (go_simp; with_reducible rfl)
      refine held_take 1 (v := ?_) rfl (by kernel_rfl) (by kernel_rfl) (by kernel_rfl) (fun _ _ _ h => h) (by rfl) ?_ (Grew.refl _).drew ?_
      rotate_left
      · (intro W hW; obtain ⟨al, a0, a1⟩ := boxS (HB3.out.grew hW); go_simp; with_reducible rfl)
      refine held_norm (a' := ?_) ?_ ?_
      rotate_left
      · (go_simp; with_reducible rfl)
      refine held_take 2 (v := ?_) rfl (by kernel_rfl) (by kernel_rfl) (by kernel_rfl) (fun _ _ _ h => h) (by rfl) ?_ (Grew.refl _).drew ?_
      rotate_left
      · (intro W hW; go_simp; with_reducible rfl)
      refine held_norm (a' := ?_) ?_ ?_
      rotate_left
      · (go_simp; with_reducible rfl)
      refine held_call 3 (by kernel_rfl) rfl (by rfl) (fun K hK => ?_)
      go_simp
      (with_reducible refine (HH2.out _ (HGx.out.trans ((Grew.refl _).drew))).mono ?_)
      rintro e y1 ⟨B2, j2, rfl, hgx, hr2⟩
      have K1 : Hid (Grew wx y1) := Lib.hid (Grew.trans ((Grew.refl _).drew) hgx)
      have HR2 := Lib.hid hr2; clear hr2
      clear hgx
      go_wp2
      refine hK.out _ _ K1.out ?_
      clear hK K
      refine held_call 4 (by kernel_rfl) rfl (by rfl) (fun K hK => ?_)
      go_simp
      (with_reducible refine (HSm1.out _ _ _ _ _ (HRB.out.grew (K1.out)) HR2.out).grows.mono ?_)
      rintro e y2 ⟨rfl, hgx⟩
      have K2 : Hid (Grew wx y2) := Lib.hid (Grew.trans (K1.out) hgx)
      clear hgx
      go_wp2
      refine hK.out _ _ K2.out ?_
      clear hK K
      refine held_take 5 (v := ?_) rfl (by kernel_rfl) (by kernel_rfl) (by kernel_rfl) (fun _ _ _ h => h) (by rfl) ?_ K2.out ?_
      rotate_left
      · (intro W hW; go_simp; with_reducible rfl)
      refine held_norm (a' := ?_) ?_ ?_
      rotate_left
      · (go_simp; with_reducible rfl)
      refine held_take 6 (v := ?_) rfl (by kernel_rfl) (by kernel_rfl) (by kernel_rfl) (fun _ _ _ h => h) (by rfl) ?_ K2.out ?_
      rotate_left
      · (intro W hW; obtain ⟨al, a0, a1⟩ := boxS (HB3.out.grew hW); go_simp; with_reducible rfl)
      refine held_norm (a' := ?_) ?_ ?_
      rotate_left
      · (go_simp; with_reducible rfl)
      refine held_take 7 (v := ?_) rfl (by kernel_rfl) (by kernel_rfl) (by kernel_rfl) (fun _ _ _ h => h) (by rfl) ?_ K2.out ?_
      rotate_left
      · (intro W hW; go_simp; with_reducible rfl)
      refine held_norm (a' := ?_) ?_ ?_
      rotate_left
      · (go_simp; with_reducible rfl)
      refine held_take 9 (v := ?_) rfl (by kernel_rfl) (by kernel_rfl) (by kernel_rfl) (fun _ _ _ h => h) (by rfl) ?_ K2.out ?_
      rotate_left
      · (intro W hW; obtain ⟨al, a0, a1⟩ := boxS (HB3.out.grew hW); go_simp; with_reducible rfl)
      refine held_norm (a' := ?_) ?_ ?_
      rotate_left
      · (go_simp; with_reducible rfl)
      refine held_take 10 (v := ?_) rfl (by kernel_rfl) (by kernel_rfl) (by kernel_rfl) (fun _ _ _ h => h) (by rfl) ?_ K2.out ?_
      rotate_left
      · (intro W hW; obtain ⟨al, a0, a1⟩ := boxS (HB3.out.grew hW); go_simp; with_reducible rfl)
      refine held_norm (a' := ?_) ?_ ?_
      rotate_left
      · (go_simp; with_reducible rfl)
      refine held_take 11 (v := ?_) rfl (by kernel_rfl) (by kernel_rfl) (by kernel_rfl) (fun _ _ _ h => h) (by rfl) ?_ K2.out ?_
      rotate_left
      · (intro W hW; go_simp; with_reducible rfl)
      refine held_norm (a' := ?_) ?_ ?_
      rotate_left
      · (go_simp; with_reducible rfl)
      refine held_call 8 (by kernel_rfl) rfl (by rfl) (fun K hK => ?_)
      go_simp
      (with_reducible refine (HRt1.out _ (HGx.out.trans (K2.out))).grows.mono ?_)
      rintro e y3 ⟨rfl, hgx⟩
      have K3 : Hid (Grew wx y3) := Lib.hid (Grew.trans (K2.out) hgx)
      clear hgx
      go_wp2
      refine hK.out _ _ K3.out ?_
      clear hK K
      refine held_call 12 (by kernel_rfl) rfl (by rfl) (fun K hK => ?_)
      go_simp
      (with_reducible refine (HH2.out _ (HGx.out.trans (K3.out))).mono ?_)
      rintro e y4 ⟨B4, j4, rfl, hgx, hr4⟩
      have K4 : Hid (Grew wx y4) := Lib.hid (Grew.trans (K3.out) hgx)
      have HR4 := Lib.hid hr4; clear hr4
      clear hgx
      go_wp2
      refine hK.out _ _ K4.out ?_
      clear hK K
      refine held_call 13 (by kernel_rfl) rfl (by rfl) (fun K hK => ?_)
      go_simp
      (with_reducible refine (HSm2.out _ _ _ (HGx.out.trans (K4.out)) HR4.out).grows.mono ?_)
      rintro e y5 ⟨rfl, hgx⟩
      have K5 : Hid (Grew wx y5) := Lib.hid (Grew.trans (K4.out) hgx)
      clear hgx
      go_wp2
      refine hK.out _ _ K5.out ?_
      clear hK K
      refine held_take 14 (v := ?_) rfl (by kernel_rfl) (by kernel_rfl) (by kernel_rfl) (fun _ _ _ h => h) (by rfl) ?_ K5.out ?_
      rotate_left
      · (intro W hW; go_simp; with_reducible rfl)
      refine held_norm (a' := ?_) ?_ ?_
      rotate_left
      · (go_simp; with_reducible rfl)
      refine held_take 15 (v := ?_) rfl (by kernel_rfl) (by kernel_rfl) (by kernel_rfl) (fun _ _ _ h => h) (by rfl) ?_ K5.out ?_
      rotate_left
      · (intro W hW; go_simp; with_reducible rfl)
      refine held_norm (a' := ?_) ?_ ?_
      rotate_left
      · (go_simp; with_reducible rfl)
      refine held_take 16 (v := ?_) rfl (by kernel_rfl) (by kernel_rfl) (by kernel_rfl) (fun _ _ _ h => h) (by rfl) ?_ K5.out ?_
      rotate_left
      · (intro W hW; go_simp; with_reducible rfl)
      refine held_norm (a' := ?_) ?_ ?_
      rotate_left
      · (go_simp; with_reducible rfl)
      refine held_take 17 (v := ?_) rfl (by kernel_rfl) (by kernel_rfl) (by kernel_rfl) (fun _ _ _ h => h) (by rfl) ?_ K5.out ?_
      rotate_left
      · (intro W hW; obtain ⟨bl, b0, b1⟩ := boxS (HB7.out.grew hW); go_simp; with_reducible rfl)
      refine held_norm (a' := ?_) ?_ ?_
      rotate_left
      · (go_simp; with_reducible rfl)
      refine held_take 18 (v := ?_) rfl (by kernel_rfl) (by kernel_rfl) (by kernel_rfl) (fun _ _ _ h => h) (by rfl) ?_ K5.out ?_
      rotate_left
      · (intro W hW; go_simp; with_reducible rfl)
      refine held_norm (a' := ?_) ?_ ?_
      rotate_left
      · (go_simp; with_reducible rfl)
      refine held_call 19 (by kernel_rfl) rfl (by rfl) (fun K hK => ?_)
      go_simp
      (with_reducible refine (HRt2.out _ _ _ (HRB.out.grew (K5.out))).grows.mono ?_)
      rintro e y6 ⟨rfl, hgx⟩
      have K6 : Hid (Grew wx y6) := Lib.hid (Grew.trans (K5.out) hgx)
      clear hgx
      go_wp2
      refine hK.out _ _ K6.out ?_
      clear hK K
      refine held_take 20 (v := ?_) rfl (by kernel_rfl) (by kernel_rfl) (by kernel_rfl) (fun _ _ _ h => h) (by rfl) ?_ K6.out ?_
      rotate_left
      · (intro W hW; go_simp; with_reducible rfl)
      refine held_norm (a' := ?_) ?_ ?_
      rotate_left
      · (go_simp; with_reducible rfl)
      refine held_take 21 (v := ?_) rfl (by kernel_rfl) (by kernel_rfl) (by kernel_rfl) (fun _ _ _ h => h) (by rfl) ?_ K6.out ?_
      rotate_left
      · (intro W hW; go_simp; with_reducible rfl)
      refine held_norm (a' := ?_) ?_ ?_
      rotate_left
      · (go_simp; with_reducible rfl)
      refine held_take 22 (v := ?_) rfl (by kernel_rfl) (by kernel_rfl) (by kernel_rfl) (fun _ _ _ h => h) (by rfl) ?_ K6.out ?_
      rotate_left
      · (intro W hW; obtain ⟨al, a0, a1⟩ := boxS (HB3.out.grew hW); go_simp; with_reducible rfl)
      refine held_norm (a' := ?_) ?_ ?_
      rotate_left
      · (go_simp; with_reducible rfl)
      refine held_take 23 (v := ?_) rfl (by kernel_rfl) (by kernel_rfl) (by kernel_rfl) (fun _ _ _ h => h) (by rfl) ?_ K6.out ?_
      rotate_left
      · (intro W hW; go_simp; with_reducible rfl)
      refine held_norm (a' := ?_) ?_ ?_
      rotate_left
      · (go_simp; with_reducible rfl)
      refine held_take 25 (v := ?_) rfl (by kernel_rfl) (by kernel_rfl) (by kernel_rfl) (fun _ _ _ h => h) (by rfl) ?_ K6.out ?_
      rotate_left
      · (intro W hW; obtain ⟨cl, c0, c1, c2, _, _, _⟩ := boxC (HB8.out.grew hW); go_simp; with_reducible rfl)
      refine held_norm (a' := ?_) ?_ ?_
      rotate_left
      · (go_simp; with_reducible rfl)
      refine held_call 24 (by kernel_rfl) rfl (by rfl) (fun K hK => ?_)
      go_simp
      (with_reducible refine (HCo.out _ (HGx.out.trans (K6.out))).mono ?_)
      rintro e y7 ⟨B5, j5, rfl, hgx, ho5⟩
      have K7 : Hid (Grew wx y7) := Lib.hid (Grew.trans (K6.out) hgx)
      have HR5 := Lib.hid (own_rowI ho5); clear ho5
      clear hgx
      go_wp2
      refine hK.out _ _ K7.out ?_
      clear hK K
      refine held_call 26 (by kernel_rfl) rfl (by rfl) (fun K hK => ?_)
      go_simp
      (with_reducible refine (HSC.out _ _ _ _ _ HR5.out (HRD.out.grew (K7.out))).grows.mono ?_)
      rintro e y8 ⟨rfl, hgx⟩
      have K8 : Hid (Grew wx y8) := Lib.hid (Grew.trans (K7.out) hgx)
      clear hgx
      go_wp2
      refine hK.out _ _ K8.out ?_
      clear hK K
      refine held_take 27 (v := ?_) rfl (by kernel_rfl) (by kernel_rfl) (by kernel_rfl) (fun _ _ _ h => h) (by rfl) ?_ K8.out ?_
      rotate_left
      · (intro W hW; go_simp; with_reducible rfl)
      refine held_norm (a' := ?_) ?_ ?_
      rotate_left
      · (go_simp; with_reducible rfl)
      refine held_take 28 (v := ?_) rfl (by kernel_rfl) (by kernel_rfl) (by kernel_rfl) (fun _ _ _ h => h) (by rfl) ?_ K8.out ?_
      rotate_left
      · (intro W hW; go_simp; with_reducible rfl)
      refine held_norm (a' := ?_) ?_ ?_
      rotate_left
      · (go_simp; with_reducible rfl)
      refine held_call 29 (by kernel_rfl) rfl (by rfl) (fun K hK => ?_)
      go_simp
      (with_reducible refine (live27_any _).grows.mono ?_)
      rintro e y9 ⟨rfl, hgx⟩
      have K9 : Hid (Grew wx y9) := Lib.hid (Grew.trans (K8.out) hgx)
      clear hgx
      go_wp2
      refine hK.out _ _ K9.out ?_
      clear hK K
      refine held_take 30 (v := ?_) rfl (by kernel_rfl) (by kernel_rfl) (by kernel_rfl) (fun _ _ _ h => h) (by rfl) ?_ K9.out ?_
      rotate_left
      · (intro W hW; go_simp; with_reducible rfl)
      refine held_norm (a' := ?_) ?_ ?_
      rotate_left
      · (go_simp; with_reducible rfl)
      refine held_take 31 (v := ?_) rfl (by kernel_rfl) (by kernel_rfl) (by kernel_rfl) (fun _ _ _ h => h) (by rfl) ?_ K9.out ?_
      rotate_left
      · (intro W hW; go_simp; with_reducible rfl)
      refine held_norm (a' := ?_) ?_ ?_
      rotate_left
      · (go_simp; with_reducible rfl)
      refine held_done (by kernel_rfl) ?_
      go_wp2
      go_ret
      exact ⟨rfl, HGx.out.trans K9.out⟩
    · go_upto_region 7 with fail
      clear HC0 x1 x2 x3
      obtain ⟨wx, rfl⟩ : ∃ wx : World, wx = w5 := ⟨_, rfl⟩
      refine wp_region_S (fun W => Grew wx W) (by kernel_rfl) ?_
      refine held_take 0 (v := ?_) rfl (by kernel_rfl) (by kernel_rfl) (by kernel_rfl) (fun _ _ _ h => h) (by rfl) ?_ (Grew.refl _).drew ?_
      rotate_left
      · (intro W hW; obtain ⟨bl, b0, b1⟩ := boxS (HB7.out.grew hW); go_simp; with_reducible rfl)
      refine held_norm (a' := ?_) ?_ ?_
      rotate_left
      · (go_simp; with_reducible rfl)
      refine held_take 1 (v := ?_) rfl (by kernel_rfl) (by kernel_rfl) (by kernel_rfl) (fun _ _ _ h => h) (by rfl) ?_ (Grew.refl _).drew ?_
      rotate_left
      · (intro W hW; obtain ⟨al, a0, a1⟩ := boxS (HB3.out.grew hW); go_simp; with_reducible rfl)
      refine held_norm (a' := ?_) ?_ ?_
      rotate_left
      · (go_simp; with_reducible rfl)
      refine held_take 2 (v := ?_) rfl (by kernel_rfl) (by kernel_rfl) (by kernel_rfl) (fun _ _ _ h => h) (by rfl) ?_ (Grew.refl _).drew ?_
      rotate_left
      · (intro W hW; go_simp; with_reducible rfl)
      refine held_norm (a' := ?_) ?_ ?_
      rotate_left
      · (go_simp; with_reducible rfl)
      refine held_call 3 (by kernel_rfl) rfl (by rfl) (fun K hK => ?_)
      go_simp
      (with_reducible refine (HH2.out _ (HGx.out.trans ((Grew.refl _).drew))).mono ?_)
      rintro e y1 ⟨B2, j2, rfl, hgx, hr2⟩
      have K1 : Hid (Grew wx y1) := Lib.hid (Grew.trans ((Grew.refl _).drew) hgx)
      have HR2 := Lib.hid hr2; clear hr2
      clear hgx
      go_wp2
      refine hK.out _ _ K1.out ?_
      clear hK K
      refine held_call 4 (by kernel_rfl) rfl (by rfl) (fun K hK => ?_)
      go_simp
      (with_reducible refine (HSm1.out _ _ _ _ _ (HRB.out.grew (K1.out)) HR2.out).grows.mono ?_)
      rintro e y2 ⟨rfl, hgx⟩
      have K2 : Hid (Grew wx y2) := Lib.hid (Grew.trans (K1.out) hgx)
      clear hgx
      go_wp2
      refine hK.out _ _ K2.out ?_
      clear hK K
      refine held_take 5 (v := ?_) rfl (by kernel_rfl) (by kernel_rfl) (by kernel_rfl) (fun _ _ _ h => h) (by rfl) ?_ K2.out ?_
      rotate_left
      · (intro W hW; go_simp; with_reducible rfl)
      refine held_norm (a' := ?_) ?_ ?_
      rotate_left
      · (go_simp; with_reducible rfl)
      refine held_take 6 (v := ?_) rfl (by kernel_rfl) (by kernel_rfl) (by kernel_rfl) (fun _ _ _ h => h) (by rfl) ?_ K2.out ?_
      rotate_left
      · (intro W hW; obtain ⟨al, a0, a1⟩ := boxS (HB3.out.grew hW); go_simp; with_reducible rfl)
      refine held_norm (a' := ?_) ?_ ?_
      rotate_left
      · (go_simp; with_reducible rfl)
      refine held_take 7 (v := ?_) rfl (by kernel_rfl) (by kernel_rfl) (by kernel_rfl) (fun _ _ _ h => h) (by rfl) ?_ K2.out ?_
      rotate_left
      · (intro W hW; go_simp; with_reducible rfl)
      refine held_norm (a' := ?_) ?_ ?_
      rotate_left
      · (go_simp; with_reducible rfl)
      refine held_take 9 (v := ?_) rfl (by kernel_rfl) (by kernel_rfl) (by kernel_rfl) (fun _ _ _ h => h) (by rfl) ?_ K2.out ?_
      rotate_left
      · (intro W hW; obtain ⟨al, a0, a1⟩ := boxS (HB3.out.grew hW); go_simp; with_reducible rfl)
      refine held_norm (a' := ?_) ?_ ?_
      rotate_left
      · (go_simp; with_reducible rfl)
      refine held_take 10 (v := ?_) rfl (by kernel_rfl) (by kernel_rfl) (by kernel_rfl) (fun _ _ _ h => h) (by rfl) ?_ K2.out ?_
      rotate_left
      · (intro W hW; obtain ⟨al, a0, a1⟩ := boxS (HB3.out.grew hW); go_simp; with_reducible rfl)
      refine held_norm (a' := ?_) ?_ ?_
      rotate_left
      · (go_simp; with_reducible rfl)
      refine held_take 11 (v := ?_) rfl (by kernel_rfl) (by kernel_rfl) (by kernel_rfl) (fun _ _ _ h => h) (by rfl) ?_ K2.out ?_
      rotate_left
      · (intro W hW; go_simp; with_reducible rfl)
      refine held_norm (a' := ?_) ?_ ?_
      rotate_left
      · (go_simp; with_reducible rfl)
      refine held_call 8 (by kernel_rfl) rfl (by rfl) (fun K hK => ?_)
      go_simp
      (with_reducible refine (HRt1.out _ (HGx.out.trans (K2.out))).grows.mono ?_)
      rintro e y3 ⟨rfl, hgx⟩
      have K3 : Hid (Grew wx y3) := Lib.hid (Grew.trans (K2.out) hgx)
      clear hgx
      go_wp2
      refine hK.out _ _ K3.out ?_
      clear hK K
      refine held_call 12 (by kernel_rfl) rfl (by rfl) (fun K hK => ?_)
      go_simp
      (with_reducible refine (HH2.out _ (HGx.out.trans (K3.out))).mono ?_)
      rintro e y4 ⟨B4, j4, rfl, hgx, hr4⟩
      have K4 : Hid (Grew wx y4) := Lib.hid (Grew.trans (K3.out) hgx)
      have HR4 := Lib.hid hr4; clear hr4
      clear hgx
      go_wp2
      refine hK.out _ _ K4.out ?_
      clear hK K
      refine held_call 13 (by kernel_rfl) rfl (by rfl) (fun K hK => ?_)
      go_simp
      (with_reducible refine (HSm2.out _ _ _ (HGx.out.trans (K4.out)) HR4.out).grows.mono ?_)
      rintro e y5 ⟨rfl, hgx⟩
      have K5 : Hid (Grew wx y5) := Lib.hid (Grew.trans (K4.out) hgx)
      clear hgx
      go_wp2
      refine hK.out _ _ K5.out ?_
      clear hK K
      refine held_take 14 (v := ?_) rfl (by kernel_rfl) (by kernel_rfl) (by kernel_rfl) (fun _ _ _ h => h) (by rfl) ?_ K5.out ?_
      rotate_left
      · (intro W hW; go_simp; with_reducible rfl)
      refine held_norm (a' := ?_) ?_ ?_
      rotate_left
      · (go_simp; with_reducible rfl)
      refine held_take 15 (v := ?_) rfl (by kernel_rfl) (by kernel_rfl) (by kernel_rfl) (fun _ _ _ h => h) (by rfl) ?_ K5.out ?_
      rotate_left
      · (intro W hW; go_simp; with_reducible rfl)
      refine held_norm (a' := ?_) ?_ ?_
      rotate_left
      · (go_simp; with_reducible rfl)
      refine held_take 16 (v := ?_) rfl (by kernel_rfl) (by kernel_rfl) (by kernel_rfl) (fun _ _ _ h => h) (by rfl) ?_ K5.out ?_
      rotate_left
      · (intro W hW; go_simp; with_reducible rfl)
      refine held_norm (a' := ?_) ?_ ?_
      rotate_left
      · (go_simp; with_reducible rfl)
      refine held_take 17 (v := ?_) rfl (by kernel_rfl) (by kernel_rfl) (by kernel_rfl) (fun _ _ _ h => h) (by rfl) ?_ K5.out ?_
      rotate_left
      · (intro W hW; obtain ⟨bl, b0, b1⟩ := boxS (HB7.out.grew hW); go_simp; with_reducible rfl)
      refine held_norm (a' := ?_) ?_ ?_
      rotate_left
      · (go_simp; with_reducible rfl)
      refine held_take 18 (v := ?_) rfl (by kernel_rfl) (by kernel_rfl) (by kernel_rfl) (fun _ _ _ h => h) (by rfl) ?_ K5.out ?_
      rotate_left
      · (intro W hW; go_simp; with_reducible rfl)
      refine held_norm (a' := ?_) ?_ ?_
      rotate_left
      · (go_simp; with_reducible rfl)
      refine held_call 19 (by kernel_rfl) rfl (by rfl) (fun K hK => ?_)
      go_simp
      (with_reducible refine (HRt2.out _ _ _ (HRB.out.grew (K5.out))).grows.mono ?_)
      rintro e y6 ⟨rfl, hgx⟩
      have K6 : Hid (Grew wx y6) := Lib.hid (Grew.trans (K5.out) hgx)
      clear hgx
      go_wp2
      refine hK.out _ _ K6.out ?_
      clear hK K
      refine held_take 20 (v := ?_) rfl (by kernel_rfl) (by kernel_rfl) (by kernel_rfl) (fun _ _ _ h => h) (by rfl) ?_ K6.out ?_
      rotate_left
      · (intro W hW; go_simp; with_reducible rfl)
      refine held_norm (a' := ?_) ?_ ?_
      rotate_left
      · (go_simp; with_reducible rfl)
      refine held_take 21 (v := ?_) rfl (by kernel_rfl) (by kernel_rfl) (by kernel_rfl) (fun _ _ _ h => h) (by rfl) ?_ K6.out ?_
      rotate_left
      · (intro W hW; go_simp; with_reducible rfl)
      refine held_norm (a' := ?_) ?_ ?_
      rotate_left
      · (go_simp; with_reducible rfl)
      refine held_take 22 (v := ?_) rfl (by kernel_rfl) (by kernel_rfl) (by kernel_rfl) (fun _ _ _ h => h) (by rfl) ?_ K6.out ?_
      rotate_left
      · (intro W hW; obtain ⟨al, a0, a1⟩ := boxS (HB3.out.grew hW); go_simp; with_reducible rfl)
      refine held_norm (a' := ?_) ?_ ?_
      rotate_left
      · (go_simp; with_reducible rfl)
      refine held_take 23 (v := ?_) rfl (by kernel_rfl) (by kernel_rfl) (by kernel_rfl) (fun _ _ _ h => h) (by rfl) ?_ K6.out ?_
      rotate_left
      · (intro W hW; go_simp; with_reducible rfl)
      refine held_norm (a' := ?_) ?_ ?_
      rotate_left
      · (go_simp; with_reducible rfl)
      refine held_take 25 (v := ?_) rfl (by kernel_rfl) (by kernel_rfl) (by kernel_rfl) (fun _ _ _ h => h) (by rfl) ?_ K6.out ?_
      rotate_left
      · (intro W hW; obtain ⟨cl, c0, c1, c2, _, _, _⟩ := boxC (HB8.out.grew hW); go_simp; with_reducible rfl)
      refine held_norm (a' := ?_) ?_ ?_
      rotate_left
      · (go_simp; with_reducible rfl)
      refine held_call 24 (by kernel_rfl) rfl (by rfl) (fun K hK => ?_)
      go_simp
      (with_reducible refine (HCo.out _ (HGx.out.trans (K6.out))).mono ?_)
      rintro e y7 ⟨B5, j5, rfl, hgx, ho5⟩
      have K7 : Hid (Grew wx y7) := Lib.hid (Grew.trans (K6.out) hgx)
      have HR5 := Lib.hid (own_rowI ho5); clear ho5
      clear hgx
      go_wp2
      refine hK.out _ _ K7.out ?_
      clear hK K
      refine held_call 26 (by kernel_rfl) rfl (by rfl) (fun K hK => ?_)
      go_simp
      (with_reducible refine (HSC.out _ _ _ _ _ HR5.out (HRD.out.grew (K7.out))).grows.mono ?_)
      rintro e y8 ⟨rfl, hgx⟩
      have K8 : Hid (Grew wx y8) := Lib.hid (Grew.trans (K7.out) hgx)
      clear hgx
      go_wp2
      refine hK.out _ _ K8.out ?_
      clear hK K
      refine held_take 27 (v := ?_) rfl (by kernel_rfl) (by kernel_rfl) (by kernel_rfl) (fun _ _ _ h => h) (by rfl) ?_ K8.out ?_
      rotate_left
      · (intro W hW; go_simp; with_reducible rfl)
      refine held_norm (a' := ?_) ?_ ?_
      rotate_left
      · (go_simp; with_reducible rfl)
      refine held_take 28 (v := ?_) rfl (by kernel_rfl) (by kernel_rfl) (by kernel_rfl) (fun _ _ _ h => h) (by rfl) ?_ K8.out ?_
      rotate_left
      · (intro W hW; go_simp; with_reducible rfl)
      refine held_norm (a' := ?_) ?_ ?_
      rotate_left
      · (go_simp; with_reducible rfl)
      refine held_call 29 (by kernel_rfl) rfl (by rfl) (fun K hK => ?_)
      go_simp
      (with_reducible refine (live27_any _).grows.mono ?_)
      rintro e y9 ⟨rfl, hgx⟩
      have K9 : Hid (Grew wx y9) := Lib.hid (Grew.trans (K8.out) hgx)
      clear hgx
      go_wp2
      refine hK.out _ _ K9.out ?_
      clear hK K
      refine held_take 30 (v := ?_) rfl (by kernel_rfl) (by kernel_rfl) (by kernel_rfl) (fun _ _ _ h => h) (by rfl) ?_ K9.out ?_
      rotate_left
      · (intro W hW; go_simp; with_reducible rfl)
      refine held_norm (a' := ?_) ?_ ?_
      rotate_left
      · (go_simp; with_reducible rfl)
      refine held_take 31 (v := ?_) rfl (by kernel_rfl) (by kernel_rfl) (by kernel_rfl) (fun _ _ _ h => h) (by rfl) ?_ K9.out ?_
      rotate_left
      · (intro W hW; go_simp; with_reducible rfl)
      refine held_norm (a' := ?_) ?_ ?_
      rotate_left
      · (go_simp; with_reducible rfl)
      refine held_done (by kernel_rfl) ?_
      go_wp2
      go_ret
      exact ⟨rfl, HGx.out.trans K9.out⟩
end Go.Proofs.Ytfdjnhnchibejaa
