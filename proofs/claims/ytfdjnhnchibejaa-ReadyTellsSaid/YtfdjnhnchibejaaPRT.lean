/- The statement ReadyTellsSaid: for every input the law returns true, and each argument reads as it did. No condition beyond the row's own. -/
import Derived.Test.YtfdjnhnchibejaaRR
import Derived.Test.YtfdjnhnchibejaaFrame2

/- Layer 33: the law of readiness, orders and levels. Condition: numbers that an int holds. -/
namespace Go.Proofs.Ytfdjnhnchibejaa
open Go.RowKit
attribute [local go_sem] more_cell more_frozen more_more more_setCell more_of_drew more_of_drewN lt_more le_more past_cell past_cell2 past_frozen past_frozen2 past_setCell past_setCell2 mid_cell mid_frozen mid_setCell
attribute [local go_sem ↓] Go.wp_at_zero Go.wp_at_succ

theorem samenat_any (l : List Nat) (hl : l.length ≤ 1000) (A B : Option Addr) (ka kb : Nat) (w : World) (ra : Row w A (nL l)) (rb : Row w B (nL l)) :
    Gives Try.prog 56 #[.slice A l.length ka, .slice B l.length kb] w (.bool true) := by
  rw [nL_iV] at ra rb
  have h := samelist_any (l.map fun (a : Nat) => (a : Int)) (l.map fun (a : Nat) => (a : Int)) A B ka kb w ra rb (by rw [List.length_map]; omega) (by rw [List.length_map]; omega)
  rw [decide_eq_true rfl, List.length_map] at h
  exact h
set_option maxHeartbeats 8000000 in
set_option maxRecDepth 100000 in
theorem readyTells_walk (o : Oth) (nd : List (List Int)) (A : Option Addr) (k : Nat) (dn : List Bool) (B : Option Addr) (c : Nat) (t : Int) (hl : nd.length ≤ 1000000000000000) (hw : wfG nd) (w : World) (ra : PipsR w A nd) (rb : Row w B (bL dn)) :
    Gives Try.prog 13 #[plV o A nd.length k, .slice B dn.length c, .int .i64 t] w (.bool true) := by
  have HMu := Lib.hid (fun W (hW : Grew w W) => rmuch33_any o nd A k hl W (ra.grew hW))
  have HAll := Lib.hid (fun (hn : nd.length ≤ 20) (hel : ∀ e ∈ nd, e.length ≤ 30) =>
    And.intro (fun W (hW : Grew w W) => ready33_any o nd nd.length rfl hel dn B c A k t W (ra.grew hW) (rb.grew hW))
    (And.intro (fun W (hW : Grew w W) => rready33_any o nd nd.length rfl hel dn B c A k t W (ra.grew hW) (rb.grew hW))
    (And.intro (fun W (hW : Grew w W) => all33_any o nd nd.length rfl (by omega) hel dn B c A k W (ra.grew hW) (rb.grew hW))
    (And.intro (fun W (hW : Grew w W) => rall33_any o nd nd.length rfl (by omega) hel dn B c A k W (ra.grew hW) (rb.grew hW))
    (And.intro (fun W (hW : Grew w W) => order33_any o nd nd.length rfl (by omega) hw hel A k W (ra.grew hW))
    (And.intro (fun W (hW : Grew w W) => rorder33_any o nd nd.length rfl (by omega) hel A k W (ra.grew hW))
    (And.intro (fun W (hW : Grew w W) => acyclic33_any o nd nd.length rfl (by omega) hw hel A k W (ra.grew hW))
    (And.intro (fun W (hW : Grew w W) => level33_any o nd nd.length rfl (by omega) hw hel A k t W (ra.grew hW))
    (fun W (hW : Grew w W) => rlevel33_any o nd nd.length rfl (by omega) hel A k t W (ra.grew hW))))))))))
  have HLe : Hid ((ordS nd nd.length).1.length ≤ nd.length) := Lib.hid (ordS_le nd nd.length)
  have HLa : Hid ((allS nd nd.length dn nd.length).length ≤ nd.length) := Lib.hid (allS_len _ _ _ _)
  generalize allS nd nd.length dn nd.length = al at *
  generalize readyI nd nd.length dn t = r at *
  generalize (ordS nd nd.length).1 = l at *
  generalize levI nd l t = lev at *
  clear ra rb hl hw
  unfold plV at *
  have HB0 : Hid (Blok (w.alloc (.cells (plC o A nd.length k) 117)) w.heap.size 117 (plC o A nd.length k)) := Lib.hid (Blok.new _ _ _ _ rfl)
  have HG0 : Hid (Grew w (w.alloc (.cells (plC o A nd.length k) 117))) := Lib.hid ((Grew.refl w).alloc _)
  unfold Gives
  generalize nd.length = n at *
  by_cases h30 : 30 < dn.length
  · have e1 : decide ((30 : Int) < (dn.length : Int)) = true := decide_eq_true (by omega)
    have h30' : (30 : Int) < dn.length := by omega
    clear h30 HAll HLe HLa
    go_enter Try.func13, Try.ntmps13
    go_upto_region 1 with fail
    obtain ⟨w1, hw1⟩ : ∃ w1, w1 = w.alloc (.cells (plC o A n k) 117) := ⟨_, rfl⟩
    rw [← hw1] at HB0 HG0 ⊢
    clear hw1
    generalize w.heap.size = g at *
    obtain ⟨b0, d0, d1, b1, d3, d4, d5⟩ := boxP HB0.out
    have HMu1 := Lib.hid (HMu.out _ HG0.out)
    unfold plC at HMu1
    go_wp2_with fail
    refine HMu1.out.mono ?_
    rintro e w2 ⟨t, rfl, hg2, _⟩
    have HG2 := Lib.hid (HG0.out.trans hg2)
    clear hg2 HMu HMu1
    cases t
    all_goals
      go_wp2_with (go_at_call 95; (with_reducible refine (live33_any _).grows.mono ?_); rintro e w5 ⟨rfl, hg5⟩; have HG5 := Lib.hid (HG2.out.trans hg5); clear hg5)
      go_ret
      exact ⟨rfl, HG5.out⟩
  have e1 : decide ((30 : Int) < (dn.length : Int)) = false := decide_eq_false (by omega)
  have h30' : (dn.length : Int) ≤ 30 := by omega
  clear h30
  go_enter Try.func13, Try.ntmps13
  go_upto_region 1 with fail
  obtain ⟨w1, hw1⟩ : ∃ w1, w1 = w.alloc (.cells (plC o A n k) 117) := ⟨_, rfl⟩
  rw [← hw1] at HB0 HG0 ⊢
  clear hw1
  generalize w.heap.size = g at *
  obtain ⟨b0, d0, d1, b1, d3, d4, d5⟩ := boxP HB0.out
  have HMu1 := Lib.hid (HMu.out _ HG0.out)
  unfold plC at HMu1
  go_wp2_with fail
  refine HMu1.out.mono ?_
  rintro e w2 ⟨tt, rfl, hg2, hgood⟩
  have HG2 := Lib.hid (HG0.out.trans hg2)
  have HB2 := Lib.hid (HB0.out.grew hg2)
  have HGood := Lib.hid hgood
  clear hg2 HMu HMu1 hgood b0 d0 d1 b1 d3 d4 d5
  cases tt
  rotate_left
  · go_wp2_with (go_at_call 95; (with_reducible refine (live33_any _).grows.mono ?_); rintro e w5 ⟨rfl, hg5⟩; have HG5 := Lib.hid (HG2.out.trans hg5); clear hg5)
    go_ret
    exact ⟨rfl, HG5.out⟩
  obtain ⟨hn, hel⟩ := HGood.out rfl
  obtain ⟨h1, h2, h3, h4, h5, h6, h7, h8, h9⟩ := HAll.out hn hel
  have HRd := Lib.hid h1
  have HRr := Lib.hid h2
  have HAl := Lib.hid h3
  have HAr := Lib.hid h4
  have HOr := Lib.hid h5
  have HRO := Lib.hid h6
  have HAc := Lib.hid h7
  have HLv := Lib.hid h8
  have HLr := Lib.hid h9
  clear h1 h2 h3 h4 h5 h6 h7 h8 h9 HAll HGood hel
  have hle := HLe.out
  have hla := HLa.out
  have HSa := Lib.hid (fun A B ka kb w => samenat_any al (by omega) A B ka kb w)
  have HSo := Lib.hid (fun A B ka kb w => samenat_any l (by omega) A B ka kb w)
  clear HLe HLa
  have he : (((l.length : Nat) : Int) == (n : Int)) = decide (l.length = n) := by rw [Bool.eq_iff_iff, beq_iff_eq, decide_eq_true_iff]; omega
  obtain ⟨ac, hac⟩ : ∃ ac, decide (l.length = n) = ac := ⟨_, rfl⟩
  rw [hac] at he HAc
  clear hac
  have hrr : (r == r) = true := beq_self_eq_true r
  have haa : (ac == ac) = true := beq_self_eq_true ac
  have hll : (lev == lev) = true := beq_self_eq_true lev
  unfold plC at HRd HRr HAl HAr HOr HRO HAc HLv HLr
  unfold OrdF at HAl HAr HOr HRO
  obtain ⟨b0, d0, d1, b1, d3, d4, d5⟩ := boxP HB2.out
  go_upto_region 4 with (go_at_call 96; (with_reducible refine (HRO.out _ HG2.out).mono ?_); rintro e wr ⟨A3, c3, rfl, hg3, hr3⟩; have HGr := Lib.hid (HG2.out.trans hg3); have HBw := Lib.hid (HB2.out.grew hg3); have HRo := Lib.hid hr3.plain; clear hg3 hr3)
  clear b0 d0 d1 b1 d3 d4 d5 HRO HG2 HB2 HB0 HG0
  refine wp_region_grew (by kernel_rfl) ?_
  refine held_take 0 (v := ?_) rfl (by kernel_rfl) (by kernel_rfl) (by kernel_rfl) (fun _ _ _ h => h) (by rfl) ?_ ((Grew.refl wr).drew) ?_
  rotate_left
  · (intro W hW; obtain ⟨b0, d0, d1, b1, d3, d4, d5⟩ := boxP (HBw.out.grew hW); go_simp; with_reducible rfl)
  refine held_take 1 (v := ?_) rfl (by kernel_rfl) (by kernel_rfl) (by kernel_rfl) (fun _ _ _ h => h) (by rfl) ?_ ((Grew.refl wr).drew) ?_
  rotate_left
  · (intro W hW; obtain ⟨b0, d0, d1, b1, d3, d4, d5⟩ := boxP (HBw.out.grew hW); go_simp; with_reducible rfl)
  refine held_take 2 (v := ?_) rfl (by kernel_rfl) (by kernel_rfl) (by kernel_rfl) (fun _ _ _ h => h) (by rfl) ?_ ((Grew.refl wr).drew) ?_
  rotate_left
  · (intro W hW; obtain ⟨b0, d0, d1, b1, d3, d4, d5⟩ := boxP (HBw.out.grew hW); go_simp; with_reducible rfl)
  refine held_take 4 (v := ?_) rfl (by kernel_rfl) (by kernel_rfl) (by kernel_rfl) (fun _ _ _ h => h) (by rfl) ?_ ((Grew.refl wr).drew) ?_
  rotate_left
  · (intro W hW; obtain ⟨b0, d0, d1, b1, d3, d4, d5⟩ := boxP (HBw.out.grew hW); go_simp; with_reducible rfl)
  refine held_take 5 (v := ?_) rfl (by kernel_rfl) (by kernel_rfl) (by kernel_rfl) (fun _ _ _ h => h) (by rfl) ?_ ((Grew.refl wr).drew) ?_
  rotate_left
  · (intro W hW; obtain ⟨b0, d0, d1, b1, d3, d4, d5⟩ := boxP (HBw.out.grew hW); go_simp; with_reducible rfl)
  refine held_take 6 (v := ?_) rfl (by kernel_rfl) (by kernel_rfl) (by kernel_rfl) (fun _ _ _ h => h) (by rfl) ?_ ((Grew.refl wr).drew) ?_
  rotate_left
  · (intro W hW; obtain ⟨b0, d0, d1, b1, d3, d4, d5⟩ := boxP (HBw.out.grew hW); go_simp; with_reducible rfl)
  refine held_norm (a' := ?_) ?_ ?_
  rotate_left
  · (go_simp; with_reducible rfl)
  refine held_call 3 (by kernel_rfl) rfl (by rfl) (fun K hK => ?_)
  go_simp
  go_wp2_with (go_at_call 97; (with_reducible refine (HRd.out _ (HGr.out.trans ((Grew.refl wr).drew))).grows.mono ?_); rintro e w10 ⟨rfl, hg⟩; have G10 := Lib.hid (((Grew.refl wr).drew).trans hg); clear hg)
  refine hK.out _ _ G10.out ?_
  clear hK K
  refine held_call 7 (by kernel_rfl) rfl (by rfl) (fun K hK => ?_)
  go_simp
  go_wp2_with (go_at_call 98; (with_reducible refine (HRr.out _ (HGr.out.trans G10.out)).grows.mono ?_); rintro e w11 ⟨rfl, hg⟩; have G11 := Lib.hid (G10.out.trans hg); clear hg)
  refine hK.out _ _ G11.out ?_
  clear hK K
  refine held_take 8 (v := ?_) rfl (by kernel_rfl) (by kernel_rfl) (by kernel_rfl) (fun _ _ _ h => h) (by rfl) ?_ G11.out ?_
  rotate_left
  · (intro W hW; go_simp; with_reducible rfl)
  refine held_take 9 (v := ?_) rfl (by kernel_rfl) (by kernel_rfl) (by kernel_rfl) (fun _ _ _ h => h) (by rfl) ?_ G11.out ?_
  rotate_left
  · (intro W hW; go_simp; with_reducible rfl)
  refine held_norm (a' := ?_) ?_ ?_
  rotate_left
  · (go_simp; with_reducible rfl)
  refine held_take 10 (v := ?_) rfl (by kernel_rfl) (by kernel_rfl) (by kernel_rfl) (fun _ _ _ h => h) (by rfl) ?_ G11.out ?_
  rotate_left
  · (intro W hW; obtain ⟨b0, d0, d1, b1, d3, d4, d5⟩ := boxP (HBw.out.grew hW); go_simp; with_reducible rfl)
  refine held_take 11 (v := ?_) rfl (by kernel_rfl) (by kernel_rfl) (by kernel_rfl) (fun _ _ _ h => h) (by rfl) ?_ G11.out ?_
  rotate_left
  · (intro W hW; obtain ⟨b0, d0, d1, b1, d3, d4, d5⟩ := boxP (HBw.out.grew hW); go_simp; with_reducible rfl)
  refine held_take 13 (v := ?_) rfl (by kernel_rfl) (by kernel_rfl) (by kernel_rfl) (fun _ _ _ h => h) (by rfl) ?_ G11.out ?_
  rotate_left
  · (intro W hW; obtain ⟨b0, d0, d1, b1, d3, d4, d5⟩ := boxP (HBw.out.grew hW); go_simp; with_reducible rfl)
  refine held_take 14 (v := ?_) rfl (by kernel_rfl) (by kernel_rfl) (by kernel_rfl) (fun _ _ _ h => h) (by rfl) ?_ G11.out ?_
  rotate_left
  · (intro W hW; obtain ⟨b0, d0, d1, b1, d3, d4, d5⟩ := boxP (HBw.out.grew hW); go_simp; with_reducible rfl)
  refine held_norm (a' := ?_) ?_ ?_
  rotate_left
  · (go_simp; with_reducible rfl)
  refine held_call 12 (by kernel_rfl) rfl (by rfl) (fun K hK => ?_)
  go_simp
  go_wp2_with (go_at_call 99; (with_reducible refine (HAl.out _ (HGr.out.trans G11.out)).mono ?_); rintro e w12 ⟨A12, c12, rfl, hg, hr⟩; have G12 := Lib.hid (G11.out.trans hg); have R12 := Lib.hid hr.plain; clear hg hr)
  refine hK.out _ _ G12.out ?_
  clear hK K
  refine held_call 15 (by kernel_rfl) rfl (by rfl) (fun K hK => ?_)
  go_simp
  go_wp2_with (go_at_call 100; (with_reducible refine (HAr.out _ (HGr.out.trans G12.out)).mono ?_); rintro e w13 ⟨A13, c13, rfl, hg, hr⟩; have G13 := Lib.hid (G12.out.trans hg); have R13 := Lib.hid hr.plain; have R12 := Lib.hid (R12.out.grew hg); clear hg hr)
  refine hK.out _ _ G13.out ?_
  clear hK K
  refine held_call 16 (by kernel_rfl) rfl (by rfl) (fun K hK => ?_)
  go_simp
  go_wp2_with (go_at_call 56; (with_reducible refine (HSa.out _ _ _ _ _ R12.out R13.out).grows.mono ?_); rintro e w14 ⟨rfl, hg⟩; have G14 := Lib.hid (G13.out.trans hg); clear hg)
  refine hK.out _ _ G14.out ?_
  clear hK K
  refine held_take 17 (v := ?_) rfl (by kernel_rfl) (by kernel_rfl) (by kernel_rfl) (fun _ _ _ h => h) (by rfl) ?_ G14.out ?_
  rotate_left
  · (intro W hW; go_simp; with_reducible rfl)
  refine held_take 18 (v := ?_) rfl (by kernel_rfl) (by kernel_rfl) (by kernel_rfl) (fun _ _ _ h => h) (by rfl) ?_ G14.out ?_
  rotate_left
  · (intro W hW; go_simp; with_reducible rfl)
  refine held_norm (a' := ?_) ?_ ?_
  rotate_left
  · (go_simp; with_reducible rfl)
  refine held_take 19 (v := ?_) rfl (by kernel_rfl) (by kernel_rfl) (by kernel_rfl) (fun _ _ _ h => h) (by rfl) ?_ G14.out ?_
  rotate_left
  · (intro W hW; obtain ⟨b0, d0, d1, b1, d3, d4, d5⟩ := boxP (HBw.out.grew hW); go_simp; with_reducible rfl)
  refine held_take 21 (v := ?_) rfl (by kernel_rfl) (by kernel_rfl) (by kernel_rfl) (fun _ _ _ h => h) (by rfl) ?_ G14.out ?_
  rotate_left
  · (intro W hW; obtain ⟨b0, d0, d1, b1, d3, d4, d5⟩ := boxP (HBw.out.grew hW); go_simp; with_reducible rfl)
  refine held_norm (a' := ?_) ?_ ?_
  rotate_left
  · (go_simp; with_reducible rfl)
  refine held_call 20 (by kernel_rfl) rfl (by rfl) (fun K hK => ?_)
  go_simp
  go_wp2_with (go_at_call 101; (with_reducible refine (HOr.out _ (HGr.out.trans G14.out)).mono ?_); rintro e w15 ⟨A15, c15, rfl, hg, hr⟩; have G15 := Lib.hid (G14.out.trans hg); have R15 := Lib.hid hr.plain; clear hg hr)
  refine hK.out _ _ G15.out ?_
  clear hK K
  refine held_call 22 (by kernel_rfl) rfl (by rfl) (fun K hK => ?_)
  go_simp
  go_wp2_with (go_at_call 56; (with_reducible refine (HSo.out _ _ _ _ _ R15.out (HRo.out.grew G15.out)).grows.mono ?_); rintro e w16 ⟨rfl, hg⟩; have G16 := Lib.hid (G15.out.trans hg); clear hg)
  refine hK.out _ _ G16.out ?_
  clear hK K
  refine held_take 23 (v := ?_) rfl (by kernel_rfl) (by kernel_rfl) (by kernel_rfl) (fun _ _ _ h => h) (by rfl) ?_ G16.out ?_
  rotate_left
  · (intro W hW; go_simp; with_reducible rfl)
  refine held_take 24 (v := ?_) rfl (by kernel_rfl) (by kernel_rfl) (by kernel_rfl) (fun _ _ _ h => h) (by rfl) ?_ G16.out ?_
  rotate_left
  · (intro W hW; go_simp; with_reducible rfl)
  refine held_norm (a' := ?_) ?_ ?_
  rotate_left
  · (go_simp; with_reducible rfl)
  refine held_take 25 (v := ?_) rfl (by kernel_rfl) (by kernel_rfl) (by kernel_rfl) (fun _ _ _ h => h) (by rfl) ?_ G16.out ?_
  rotate_left
  · (intro W hW; obtain ⟨b0, d0, d1, b1, d3, d4, d5⟩ := boxP (HBw.out.grew hW); go_simp; with_reducible rfl)
  refine held_take 27 (v := ?_) rfl (by kernel_rfl) (by kernel_rfl) (by kernel_rfl) (fun _ _ _ h => h) (by rfl) ?_ G16.out ?_
  rotate_left
  · (intro W hW; obtain ⟨b0, d0, d1, b1, d3, d4, d5⟩ := boxP (HBw.out.grew hW); go_simp; with_reducible rfl)
  refine held_take 28 (v := ?_) rfl (by kernel_rfl) (by kernel_rfl) (by kernel_rfl) (fun _ _ _ h => h) (by rfl) ?_ G16.out ?_
  rotate_left
  · (intro W hW; obtain ⟨b0, d0, d1, b1, d3, d4, d5⟩ := boxP (HBw.out.grew hW); go_simp; with_reducible rfl)
  refine held_take 29 (v := ?_) rfl (by kernel_rfl) (by kernel_rfl) (by kernel_rfl) (fun _ _ _ h => h) (by rfl) ?_ G16.out ?_
  rotate_left
  · (intro W hW; obtain ⟨b0, d0, d1, b1, d3, d4, d5⟩ := boxP (HBw.out.grew hW); go_simp; with_reducible rfl)
  refine held_take 30 (v := ?_) rfl (by kernel_rfl) (by kernel_rfl) (by kernel_rfl) (fun _ _ _ h => h) (by rfl) ?_ G16.out ?_
  rotate_left
  · (intro W hW; obtain ⟨b0, d0, d1, b1, d3, d4, d5⟩ := boxP (HBw.out.grew hW); go_simp; with_reducible rfl)
  refine held_take 31 (v := ?_) rfl (by kernel_rfl) (by kernel_rfl) (by kernel_rfl) (fun _ _ _ h => h) (by rfl) ?_ G16.out ?_
  rotate_left
  · (intro W hW; obtain ⟨b0, d0, d1, b1, d3, d4, d5⟩ := boxP (HBw.out.grew hW); go_simp; with_reducible rfl)
  refine held_take 32 (v := ?_) rfl (by kernel_rfl) (by kernel_rfl) (by kernel_rfl) (fun _ _ _ h => h) (by rfl) ?_ G16.out ?_
  rotate_left
  · (intro W hW; obtain ⟨b0, d0, d1, b1, d3, d4, d5⟩ := boxP (HBw.out.grew hW); go_simp; with_reducible rfl)
  refine held_norm (a' := ?_) ?_ ?_
  rotate_left
  · (go_simp; with_reducible rfl)
  refine held_call 26 (by kernel_rfl) rfl (by rfl) (fun K hK => ?_)
  go_simp
  go_wp2_with (go_at_call 102; (with_reducible refine (HAc.out _ (HGr.out.trans G16.out)).grows.mono ?_); rintro e w17 ⟨rfl, hg⟩; have G17 := Lib.hid (G16.out.trans hg); clear hg)
  refine hK.out _ _ G17.out ?_
  clear hK K
  refine held_take 33 (v := ?_) rfl (by kernel_rfl) (by kernel_rfl) (by kernel_rfl) (fun _ _ _ h => h) (by rfl) ?_ G17.out ?_
  rotate_left
  · (intro W hW; go_simp; with_reducible rfl)
  refine held_take 34 (v := ?_) rfl (by kernel_rfl) (by kernel_rfl) (by kernel_rfl) (fun _ _ _ h => h) (by rfl) ?_ G17.out ?_
  rotate_left
  · (intro W hW; go_simp; with_reducible rfl)
  refine held_take 35 (v := ?_) rfl (by kernel_rfl) (by kernel_rfl) (by kernel_rfl) (fun _ _ _ h => h) (by rfl) ?_ G17.out ?_
  rotate_left
  · (intro W hW; go_simp; with_reducible rfl)
  refine held_norm (a' := ?_) ?_ ?_
  rotate_left
  · (go_simp; with_reducible rfl)
  refine held_take 36 (v := ?_) rfl (by kernel_rfl) (by kernel_rfl) (by kernel_rfl) (fun _ _ _ h => h) (by rfl) ?_ G17.out ?_
  rotate_left
  · (intro W hW; obtain ⟨b0, d0, d1, b1, d3, d4, d5⟩ := boxP (HBw.out.grew hW); go_simp; with_reducible rfl)
  refine held_take 37 (v := ?_) rfl (by kernel_rfl) (by kernel_rfl) (by kernel_rfl) (fun _ _ _ h => h) (by rfl) ?_ G17.out ?_
  rotate_left
  · (intro W hW; obtain ⟨b0, d0, d1, b1, d3, d4, d5⟩ := boxP (HBw.out.grew hW); go_simp; with_reducible rfl)
  refine held_take 39 (v := ?_) rfl (by kernel_rfl) (by kernel_rfl) (by kernel_rfl) (fun _ _ _ h => h) (by rfl) ?_ G17.out ?_
  rotate_left
  · (intro W hW; obtain ⟨b0, d0, d1, b1, d3, d4, d5⟩ := boxP (HBw.out.grew hW); go_simp; with_reducible rfl)
  refine held_take 40 (v := ?_) rfl (by kernel_rfl) (by kernel_rfl) (by kernel_rfl) (fun _ _ _ h => h) (by rfl) ?_ G17.out ?_
  rotate_left
  · (intro W hW; obtain ⟨b0, d0, d1, b1, d3, d4, d5⟩ := boxP (HBw.out.grew hW); go_simp; with_reducible rfl)
  refine held_norm (a' := ?_) ?_ ?_
  rotate_left
  · (go_simp; with_reducible rfl)
  refine held_call 38 (by kernel_rfl) rfl (by rfl) (fun K hK => ?_)
  go_simp
  go_wp2_with (go_at_call 103; (with_reducible refine (HLv.out _ (HGr.out.trans G17.out)).grows.mono ?_); rintro e w18 ⟨rfl, hg⟩; have G18 := Lib.hid (G17.out.trans hg); clear hg)
  refine hK.out _ _ G18.out ?_
  clear hK K
  refine held_call 41 (by kernel_rfl) rfl (by rfl) (fun K hK => ?_)
  go_simp
  go_wp2_with (go_at_call 104; (with_reducible refine (HLr.out _ (HGr.out.trans G18.out)).grows.mono ?_); rintro e w19 ⟨rfl, hg⟩; have G19 := Lib.hid (G18.out.trans hg); clear hg)
  refine hK.out _ _ G19.out ?_
  clear hK K
  refine held_take 42 (v := ?_) rfl (by kernel_rfl) (by kernel_rfl) (by kernel_rfl) (fun _ _ _ h => h) (by rfl) ?_ G19.out ?_
  rotate_left
  · (intro W hW; go_simp; with_reducible rfl)
  refine held_take 43 (v := ?_) rfl (by kernel_rfl) (by kernel_rfl) (by kernel_rfl) (fun _ _ _ h => h) (by rfl) ?_ G19.out ?_
  rotate_left
  · (intro W hW; go_simp; with_reducible rfl)
  refine held_take 44 (v := ?_) rfl (by kernel_rfl) (by kernel_rfl) (by kernel_rfl) (fun _ _ _ h => h) (by rfl) ?_ G19.out ?_
  rotate_left
  · (intro W hW; go_simp; with_reducible rfl)
  refine held_norm (a' := ?_) ?_ ?_
  rotate_left
  · (go_simp; with_reducible rfl)
  refine held_call 45 (by kernel_rfl) rfl (by rfl) (fun K hK => ?_)
  go_simp
  go_wp2_with (go_at_call 95; (with_reducible refine (live33_any _).grows.mono ?_); rintro e w20 ⟨rfl, hg⟩; have G20 := Lib.hid (G19.out.trans hg); clear hg)
  refine hK.out _ _ G20.out ?_
  clear hK K
  refine held_take 46 (v := ?_) rfl (by kernel_rfl) (by kernel_rfl) (by kernel_rfl) (fun _ _ _ h => h) (by rfl) ?_ G20.out ?_
  rotate_left
  · (intro W hW; go_simp; with_reducible rfl)
  refine held_take 47 (v := ?_) rfl (by kernel_rfl) (by kernel_rfl) (by kernel_rfl) (fun _ _ _ h => h) (by rfl) ?_ G20.out ?_
  rotate_left
  · (intro W hW; go_simp; with_reducible rfl)
  refine held_norm (a' := ?_) ?_ ?_
  rotate_left
  · (go_simp; with_reducible rfl)
  refine held_done (by kernel_rfl) ?_
  go_wp2
  go_ret
  exact ⟨rfl, HGr.out.trans G20.out⟩
end Go.Proofs.Ytfdjnhnchibejaa

namespace Go.Proofs.Ytfdjnhnchibejaa.readyTells
open Go.RowKit Go.ChangeShapes Go.WideShapes Go.ChangeAt Go.Joins

theorem reads : ∀ t ∈ Try.f13.params.toList, Try.prog.readableRec t = true ∧ t < Try.prog.types.size := by
  rw [Try.params13]
  intro t ht
  simp only [List.mem_cons, List.not_mem_nil, or_false] at ht
  rcases ht with rfl | rfl | rfl
  all_goals exact ⟨by kernel_rfl, of_decide_eq_true (by kernel_rfl)⟩

set_option maxRecDepth 100000 in
theorem lifted (os : Os) (started : os.Started) (H : Type) (enc : TypeId × Value → H) :
    ReturnsInHanded {} Try.checked os 13 .any (Rows.readyTellsSpec.pre6 enc Try.prog Try.f13 Rows.readyTellsRow.domain false) (Rows.readyTellsSpec.post enc Try.prog Try.f13 false true false false) := by
  refine returnsInHanded_of_change_sized (C := Try.checked) own started (by kernel_rfl) Try.func13
    (ChangeSpec.witness6 (enc := enc) (C := Try.checked) false ⟨#[], #[.agg #[.slice none 0 0, .slice none 0 0, .slice none 0 0, .slice none 0 0, .slice none 0 0, .slice none 0 0], .slice none 0 0, .int .i64 0], []⟩ 8 (by kernel_rfl) (by kernel_rfl) (by kernel_rfl) (by kernel_rfl)) ?_
  intro W base args ds gs before hval0 hW hcnd hsz0 _
  have hval : ∀ (j : Nat) t v, Try.f13.params[j]? = some t → args[j]? = some v → Value.okWide Try.prog W .any base t v := hval0
  have hW' := hW
  obtain ⟨p, q, hA0, hV, hpq, hfz, hnd⟩ := hW
  have hA : DataW.TrodAll enc Try.prog W 0 (fun _ => true) true Try.f13.params.toList args.toList ds p := hA0
  rw [Try.params13] at hA hval
  obtain ⟨v0, vs0, d0, ds0, p0, q0, hargs, rfl, rfl, h0, r0⟩ := trodAll_cons hA
  obtain ⟨v1, vs1, d1, ds1, p1, q1, rfl, rfl, rfl, h1, r1⟩ := trodAll_cons r0
  obtain ⟨v2, vs2, d2, ds2, p2, q2, rfl, rfl, rfl, h2, r2⟩ := trodAll_cons r1
  obtain ⟨rfl, rfl, rfl⟩ := trodAll_nil r2
  obtain rfl : args = #[v0, v1, v2] := by cases args; simp_all
  obtain ⟨rfl, rfl⟩ := trodVars_none hV
  have hz : (DataW.weightsEach Try.prog [117, 96, 3] [d0, d1, d2]).all (· ≤ reachBytes) = true := hsz0
  simp only [DataW.weightsEach, List.all_append, List.append_nil, Bool.and_eq_true] at hz
  obtain ⟨zz0, zz1, zz2⟩ := hz
  obtain ⟨pcs, p, rfl, zp, pA, pc, ep, kp, rp, gp⟩ := rdw_arg Try.underlying117 rdw_plan (hval 0 117 v0 rfl rfl) h0 zz0
  obtain rfl : pcs = plC p.1 pA p.2.length pc := Array.ext' (by simpa using ep)
  have o1 := rdw_arg_slice Try.underlying96 rdw_bools (hval 1 96 v1 rfl rfl) h1 zz1
  obtain ⟨d, dA, dc, ed, cd, rd, kd⟩ := o1
  obtain rfl := List.cons.inj ed |>.1
  obtain ⟨t, rfl, rfl, rfl, wt⟩ := open_int Try.underlying3 (hval 2 3 v2 rfl rfl) h2
  refine (readyTells_walk p.1 p.2 pA pc d dA dc t kp gp W rp rd).mono fun e W' ⟨he, hg⟩ => ?_
  subst he
  exact ⟨_, rfl, law_post hW' rfl rfl Try.underlying4 rfl rfl rfl laid_out reads (Grew.below hg)⟩

theorem over : Rows.readyTellsRow.holds Try.pinned (OpenSpec.ofChange Rows.readyTellsSpec) :=
  OpenClaim.holds_of_wide 13 Try.f13 rfl rfl rfl rfl rfl rfl rfl ⟨rfl, rfl, rfl, rfl, rfl⟩ rfl rfl rfl rfl rfl (by kernel_rfl) Try.func13 (by kernel_rfl)
    (of_decide_eq_true (by kernel_rfl)) (by unfold Func.isWrapper; first | (rw [if_pos (by decide +kernel)]; kernel_rfl) | (rw [if_neg (by decide +kernel)]; exact ⟨rfl, rfl⟩))
    (fun os started H enc _ => lifted os started H enc)

theorem proved : Rows.ReadyTellsSaid := over

end Go.Proofs.Ytfdjnhnchibejaa.readyTells
