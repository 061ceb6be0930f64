/- Layer 23: the law of other roots. Condition: numbers that an int holds. -/
import Derived.Test.YtpdkacfhnmfmaaaJB
namespace Go.Proofs.Ytpdkacfhnmfmaaa
open Go.RowKit
attribute [local go_sem] more_cell more_frozen more_more more_setCell more_of_drew more_of_drewN lt_more le_more past_cell past_cell2 past_frozen past_frozen2 past_setCell past_setCell2 mid_cell mid_frozen mid_setCell
attribute [local go_sem ↓] Go.wp_at_zero Go.wp_at_succ

def NaAt (w : World) (n : Nat) (x : Value) (wr : World) : Prop := ∃ a : Nat, a ≤ n ∧ x = .int .i64 a ∧ Grew w wr
set_option maxHeartbeats 8000000 in
set_option maxRecDepth 100000 in
theorem jtreeRoots_walk (h : List (List Int)) (A : Option Addr) (k : Nat) (hl : h.length ≤ 1000000000000000) (hw : wfG h) (p : List Int) (P : Option Addr) (kP : Nat) (r : Int) (w : World) (ra : GridI (PRow w) A h) (rp : Row w P (iV p)) :
    Gives Try.prog 5 #[.slice A h.length k, .slice P p.length kP, .int .i64 r] w (.bool true) := by
  have RA := Lib.hid ra
  have RP := Lib.hid rp
  have HW := Lib.hid hw
  have HMu := Lib.hid (rmuch21_any h A k hl w ra)
  clear ra rp hw hl
  unfold Gives
  obtain ⟨n, hn⟩ : ∃ n, p.length = n := ⟨_, rfl⟩
  have HN := Lib.hid hn
  rw [hn]
  clear hn
  by_cases h30 : 30 < n
  · have e1 : decide ((30 : Int) < (n : Int)) = true := decide_eq_true (by omega)
    have h30' : (30 : Int) < (n : Int) := by omega
    go_enter Try.func5, Try.ntmps5
    go_wp2_with fail
    refine HMu.out.mono ?_
    rintro e w1 ⟨t, rfl, hg1, _⟩
    have HG1 := Lib.hid hg1
    clear hg1 HMu
    cases t
    all_goals
      go_wp2_with (go_at_call 13; (with_reducible refine (live23_any _).grows.mono ?_); rintro e w5 ⟨rfl, hg5⟩; have HG5 := Lib.hid (HG1.out.trans hg5); clear hg5)
      go_ret
      exact ⟨rfl, HG5.out⟩
  have e1 : decide ((30 : Int) < (n : Int)) = false := decide_eq_false (by omega)
  have h30' : (n : Int) ≤ 30 := by omega
  go_enter Try.func5, Try.ntmps5
  go_wp2_with fail
  refine HMu.out.mono ?_
  rintro e w1 ⟨t, rfl, hg1, h1⟩
  have HG1 := Lib.hid hg1
  have HGood := Lib.hid h1
  clear hg1 h1 HMu
  cases t
  rotate_left
  · go_wp2_with (go_at_call 13; (with_reducible refine (live23_any _).grows.mono ?_); rintro e w5 ⟨rfl, hg5⟩; have HG5 := Lib.hid (HG1.out.trans hg5); clear hg5)
    go_ret
    exact ⟨rfl, HG5.out⟩
  obtain ⟨h12, hel⟩ := HGood.out rfl
  have hh1 : h.length ≤ 1000 := Nat.le_trans h12 (by decide)
  have hel2 : ∀ e ∈ h, e.length ≤ 1000 := fun e he => Nat.le_trans (hel e he) (by decide)
  have HRo := Lib.hid (fun W (hW : Grew w W) => rooted23_any p n HN.out (by omega) P kP r W (RP.out.grew hW))
  have HTr : Hid (∀ W, Grew w W → Gives Try.prog 15 #[.slice P n kP] W (.bool (treeB p))) := Lib.hid fun W hW => by
    have := rtree22_any p (by rw [HN.out]; omega) P kP W (RP.out.grew hW)
    rw [HN.out] at this
    exact this
  clear HGood
  go_wp2_with fail
  refine (HRo.out w1 HG1.out).mono ?_
  rintro e w2 ⟨Q, cQ, rfl, hg2, ht2⟩
  have HG2 := Lib.hid (HG1.out.trans hg2)
  have HQ := Lib.hid ht2.plain
  clear hg2 ht2 HRo
  have HT2 := Lib.hid (HTr.out w2 HG2.out)
  clear HTr
  cases htr : treeB p with
  | false =>
    rw [htr] at HT2
    have hq0 : (rootedL (heldL false p) r).length = 0 := rooted_len _ _
    rw [hq0]
    clear hq0 HQ
    go_wp2_with (first | (go_at_call 15; (with_reducible refine HT2.out.grows.mono ?_); rintro e w3 ⟨rfl, hg3⟩; have HG3 := Lib.hid (HG2.out.trans hg3); clear hg3) | (go_at_call 13; (with_reducible refine (live23_any _).grows.mono ?_); rintro e w5 ⟨rfl, hg5⟩; have HG5 := Lib.hid (HG3.out.trans hg5); clear hg5))
    go_ret
    exact ⟨rfl, HG5.out⟩
  | true =>
    rw [htr] at HT2 HQ
    have HQ' : Hid (Row w2 Q (iV (rootedL p r))) := HQ
    have hlen : (rootedL (heldL true p) r).length = n := by rw [← HN.out]; exact rooted_len p r
    rw [hlen]
    clear hlen HQ
    by_cases hr : 0 ≤ r ∧ r < n
    rotate_left
    · have hqp : rootedL p r = p := rooted_out (by rw [HN.out]; exact hr)
      rw [hqp] at HQ'
      have HS : Hid (∀ W, Grew w2 W → Gives Try.prog 18 #[.slice Q n cQ, .slice P n kP] W (.bool true)) := Lib.hid fun W hW => by
        have h := samelist_any p p Q P cQ kP W (HQ'.out.grew hW) (RP.out.grew (HG2.out.trans hW)) (by rw [HN.out]; omega) (by rw [HN.out]; omega)
        rw [decide_eq_true rfl, HN.out] at h
        exact h
      clear HQ' hqp
      by_cases hr0 : r < 0
      · have er : decide (r < 0) = true := decide_eq_true hr0
        clear hr
        go_wp2_with (first | (go_at_call 15; (with_reducible refine HT2.out.grows.mono ?_); rintro e w3 ⟨rfl, hg3⟩; have HG3 := Lib.hid (HG2.out.trans hg3); have HG23 := Lib.hid hg3; clear hg3) | (go_at_call 18; (with_reducible refine (HS.out _ HG23.out).grows.mono ?_); rintro e w4 ⟨rfl, hg4⟩; have HG4 := Lib.hid (HG3.out.trans hg4); clear hg4) | (go_at_call 13; (with_reducible refine (live23_any _).grows.mono ?_); rintro e w5 ⟨rfl, hg5⟩; have HG5 := Lib.hid (HG4.out.trans hg5); clear hg5))
        go_ret
        exact ⟨rfl, HG5.out⟩
      · have er : decide (r < 0) = false := decide_eq_false hr0
        have hrn : (n : Int) ≤ r := by omega
        have ern : decide ((n : Int) ≤ r) = true := decide_eq_true hrn
        have hr00 : 0 ≤ r := by omega
        clear hr
        go_wp2_with (first | (go_at_call 15; (with_reducible refine HT2.out.grows.mono ?_); rintro e w3 ⟨rfl, hg3⟩; have HG3 := Lib.hid (HG2.out.trans hg3); have HG23 := Lib.hid hg3; clear hg3) | (go_at_call 18; (with_reducible refine (HS.out _ HG23.out).grows.mono ?_); rintro e w4 ⟨rfl, hg4⟩; have HG4 := Lib.hid (HG3.out.trans hg4); clear hg4) | (go_at_call 13; (with_reducible refine (live23_any _).grows.mono ?_); rintro e w5 ⟨rfl, hg5⟩; have HG5 := Lib.hid (HG4.out.trans hg5); clear hg5))
        go_ret
        exact ⟨rfl, HG5.out⟩
    · obtain ⟨z, rfl⟩ : ∃ z : Nat, r = (z : Int) := ⟨r.toNat, by omega⟩
      have hzn : z < p.length := by rw [HN.out]; omega
      have er : decide ((z : Int) < 0) = false := decide_eq_false (by omega)
      have ern : decide ((n : Int) ≤ (z : Int)) = false := decide_eq_false (by omega)
      have ernn : decide (n ≤ z) = false := decide_eq_false (by omega)
      have hql : (rootedL p z).length = n := by rw [← HN.out]; exact rooted_len p z
      have hqt := rooted_tree htr hzn
      have hqr := rooted_root htr hzn
      have hqn : ∀ a b, a < n → b < n → nearB (rootedL p z) a b = nearB p a b := fun a b ha hb => rooted_near htr hzn (by rw [HN.out]; exact ha) (by rw [HN.out]; exact hb)
      have hqc := rooted_check htr hzn h
      have HCp := Lib.hid (fun W (hW : Grew w W) => check23_any h HW.out hh1 hel2 p n HN.out (by omega) A k P kP W (RA.out.grew hW) (RP.out.grew hW))
      have HQN := Lib.hid hqn
      generalize rootedL p z = q at *
      have HTq : Hid (∀ W, Grew w2 W → Gives Try.prog 15 #[.slice Q n cQ] W (.bool true)) := Lib.hid fun W hW => by
        have := rtree22_any q (by rw [hql]; omega) Q cQ W (HQ'.out.grew hW)
        rw [hqt, hql] at this
        exact this
      obtain ⟨A2, k2, hH, rH⟩ := rheld_any q (by rw [hql]; omega) Q cQ w2 HQ'.out
      obtain ⟨A3, k3, hJ, rJ⟩ := tree23_any q n hql (by omega) Q cQ w2 HQ'.out
      rw [hqt] at hH rH hJ rJ
      rw [hql] at hH
      have HRR : Hid (∀ W, Grew w2 W → Gives Try.prog 17 #[.slice Q n cQ] W (.int .i64 z)) := Lib.hid fun W hW => by
        have h := rroot_of Q n cQ q (by rw [hql]; omega) A2 k2 W (hH W hW) (rH.grew hW)
        rw [hqr] at h
        exact h
      have HRJ : Hid (∀ W, Grew w2 W → Gives Try.prog 16 #[.slice Q n cQ] W (.int .i64 z)) := Lib.hid fun W hW => by
        have h := root23_of Q n cQ q (by rw [hql]; omega) A3 k3 W (hJ W hW) (rJ.grew hW)
        rw [hqr] at h
        exact h
      have HNq : Hid (∀ a b, a < n → b < n → ∀ W, Grew w2 W → Gives Try.prog 28 #[.slice Q n cQ, .int .i64 (a : Int), .int .i64 (b : Int)] W (.bool (nearB p a b))) := Lib.hid fun a b ha hb W hW => by
        have h := near23_of q n hql Q cQ a b ha hb W (HQ'.out.grew hW)
        rw [HQN.out a b ha hb] at h
        exact h
      have HNp : Hid (∀ a b, a < n → b < n → ∀ W, Grew w W → Gives Try.prog 28 #[.slice P n kP, .int .i64 (a : Int), .int .i64 (b : Int)] W (.bool (nearB p a b))) := Lib.hid fun a b ha hb W hW => near23_of p n HN.out P kP a b ha hb W (RP.out.grew hW)
      have HCq := Lib.hid (fun W (hW : Grew w2 W) => check23_any h HW.out hh1 hel2 q n hql (by omega) A k Q cQ W (RA.out.grew (HG2.out.trans hW)) (HQ'.out.grew hW))
      rw [hqc] at HCq
      have hn0 : ((n : Int) != (n : Int)) = false := by simp
      have hz0 : ((z : Int) != (z : Int)) = false := by simp
      clear hqn hqt hqr hqc HQN HQ' hH rH hJ rJ hql hel hel2 hr hzn htr
      generalize checkB h p = cb at *
      have hcb : (cb == cb) = true := by simp
      go_wp2_with fail
      refine HT2.out.grows.mono ?_
      rintro e w3 ⟨rfl, hg3⟩
      have H23 := Lib.hid hg3
      clear hg3 HT2
      go_wp2_with fail
      refine (HTq.out _ H23.out).grows.mono ?_
      rintro e w4 ⟨rfl, hg4⟩
      have H24 := Lib.hid (H23.out.trans hg4)
      clear hg4 HTq H23
      go_wp2_with fail
      refine (HRR.out _ H24.out).grows.mono ?_
      rintro e w5 ⟨rfl, hg5⟩
      have H25 := Lib.hid (H24.out.trans hg5)
      clear hg5 HRR H24
      go_wp2_with fail
      refine (HRJ.out _ H25.out).grows.mono ?_
      rintro e w6 ⟨rfl, hg6⟩
      have H26 := Lib.hid (H25.out.trans hg6)
      clear hg6 HRJ H25
      go_wp2
      go_loopw [8] (fun x wr => NaAt w6 n x wr) (fun x _ => n - (intOf x).toNat)
      case atStart => exact ⟨0, Nat.zero_le _, rfl, Grew.refl _⟩
      case round =>
        obtain ⟨a, ha, rfl, hga⟩ := hrel
        have HA := Lib.hid hga
        clear hga
        by_cases han : a < n
        · go_wp2
          obtain ⟨wa, hwa⟩ : ∃ wa : World, wa = wr := ⟨_, rfl⟩
          subst hwa
          go_loopw [9] (fun x wr => NaAt wa n x wr) (fun x _ => n - (intOf x).toNat)
          case atStart => exact ⟨0, Nat.zero_le _, rfl, Grew.refl _⟩
          case round =>
            obtain ⟨b, hb, rfl, hgb⟩ := hrel
            have HB := Lib.hid hgb
            clear hgb
            by_cases hbn : b < n
            · have HN1 := Lib.hid (HNq.out a b han hbn _ ((H26.out.trans HA.out).trans HB.out))
              have HN2 := Lib.hid (fun W (hW : Grew wr W) => HNp.out a b han hbn W (HG2.out.trans (((H26.out.trans HA.out).trans HB.out).trans hW)))
              generalize nearB p a b = t at *
              have htt : (t != t) = false := by simp
              go_wp2_with fail
              refine HN1.out.grows.mono ?_
              rintro e w7 ⟨rfl, hg7⟩
              have HN3 := Lib.hid (HN2.out _ hg7)
              have HB7 := Lib.hid (HB.out.trans hg7)
              clear hg7 HN1 HN2
              go_wp2_with fail
              refine HN3.out.grows.mono ?_
              rintro e w8 ⟨rfl, hg8⟩
              have HB8 := Lib.hid (HB7.out.trans hg8)
              clear hg8 HN3
              go_wp2
              exact ⟨⟨b + 1, by omega, by go_num, HB8.out⟩, by simp only [intOf]; omega⟩
            · obtain rfl : b = n := by omega
              go_wp2
              exact ⟨⟨a + 1, by omega, by go_num, HA.out.trans HB.out⟩, by simp only [intOf]; omega⟩
        · obtain rfl : a = n := by omega
          have HC1 := Lib.hid (HCq.out _ (H26.out.trans HA.out))
          have HC2 := Lib.hid (fun W (hW : Grew wr W) => HCp.out W (HG2.out.trans ((H26.out.trans HA.out).trans hW)))
          have HGw := Lib.hid (HG2.out.trans (H26.out.trans HA.out))
          clear HCq HCp HNq HNp
          go_wp2_with fail
          refine HC1.out.grows.mono ?_
          rintro e w7 ⟨rfl, hg7⟩
          have HC3 := Lib.hid (HC2.out _ hg7)
          have HG7 := Lib.hid (HGw.out.trans hg7)
          clear hg7 HC1 HC2
          go_wp2_with fail
          refine HC3.out.grows.mono ?_
          rintro e w8 ⟨rfl, hg8⟩
          have HG8 := Lib.hid (HG7.out.trans hg8)
          clear hg8 HC3
          go_wp2_with (go_at_call 13; (with_reducible refine (live23_any _).grows.mono ?_); rintro e w9 ⟨rfl, hg9⟩; have HG9 := Lib.hid (HG8.out.trans hg9); clear hg9)
          go_ret
          exact ⟨rfl, HG9.out⟩
end Go.Proofs.Ytpdkacfhnmfmaaa
