/- Layer 33: the law of bounds on batches. Condition: numbers that an int holds. -/
import Derived.Test.YtfdjnhnchibejaaRdy6
namespace Go.Proofs.Ytfdjnhnchibejaa
open Go.RowKit
attribute [local go_sem] more_cell more_frozen more_more more_setCell more_of_drew more_of_drewN lt_more le_more past_cell past_cell2 past_frozen past_frozen2 past_setCell past_setCell2 mid_cell mid_frozen mid_setCell
attribute [local go_sem ↓] Go.wp_at_zero Go.wp_at_succ

theorem sumI_in {l : List Int} {m : Int} (h : ∀ x ∈ l, 0 ≤ x ∧ x ≤ m) : 0 ≤ sumI l ∧ sumI l ≤ l.length * m := by
  have : ∀ (l : List Int) (a : Int), (∀ x ∈ l, 0 ≤ x ∧ x ≤ m) → a ≤ l.foldl (fun a x => a + x) a ∧ l.foldl (fun a x => a + x) a ≤ a + l.length * m := by
    intro l
    induction l with
    | nil => intro a _; simp
    | cons b t ih =>
      intro a h
      obtain ⟨h1, h2⟩ := ih (a + b) fun x hx => h x (by simp [hx])
      have h3 := h b (by simp)
      rw [List.foldl_cons, List.length_cons]
      rw [show (((t.length + 1 : Nat) : Int)) * m = t.length * m + m by rw [Int.natCast_add, Int.add_mul]; simp]
      omega
  have := this l 0 h
  unfold sumI
  omega
def RbAt (w : World) (per : List Int) (x10 x11 : Value) (wr : World) : Prop := ∃ i : Nat, i ≤ per.length ∧ x10 = .int .i64 (sumI (per.take i)) ∧ x11 = .int .i64 i ∧ (∀ x ∈ per.take i, 0 ≤ x ∧ x ≤ 1099511627776) ∧ Grew w wr
set_option maxHeartbeats 4000000 in
set_option maxRecDepth 100000 in
theorem readyBounds_walk (o : Oth) (nd : List (List Int)) (A : Option Addr) (k : Nat) (per : List Int) (A' : Option Addr) (c : Nat) (b m : Int) (hl : nd.length ≤ 1000000000000000) (hp : wfL per) (hb : wfI b) (hm : wfI m) (w : World) (ra : PipsR w A nd) (rp : Row w A' (iV per)) :
    Gives Try.prog 14 #[plV o A nd.length k, .slice A' per.length c, .int .i64 b, .int .i64 m] w (.bool true) := by
  have RP := Lib.hid rp
  have HWf := Lib.hid (iV_wf hp)
  have HMu := Lib.hid (fun W (hW : Grew w W) => rmuch33_any o nd A k hl W (ra.grew hW))
  have HBd := Lib.hid (fun (hn : nd.length ≤ 20) W (hW : Grew w W) => bound33_any o nd.length hn per A' c hp b hb A k W (rp.grew hW))
  have HRb := Lib.hid (fun (hn : nd.length ≤ 20) W (hW : Grew w W) => rbound33_any o nd.length hn per A' c hp b hb A k W (rp.grew hW))
  have HBa := Lib.hid (fun W => bat33_any m b hm hb W)
  have HRa := Lib.hid (fun W => rbat33_any m b hm hb W)
  have HBn := Lib.hid (wfI_in hb)
  have HLe : Hid (1 ≤ b → (∀ x ∈ per, 0 ≤ x) → bndS per b nd.length ≤ nd.length + sumI per / b) := Lib.hid fun h1 h2 => bndS_le h1 h2 _
  have HBs : Hid (sI (bndS per b nd.length)) := Lib.hid (bndS_s _ _ _)
  generalize batI m b = bt at *
  generalize bndS per b nd.length = bd at *
  clear ra rp hl hp hb hm
  unfold plV at *
  have HB0 : Hid (Blok (w.alloc (.cells (plC o A nd.length k) 117)) w.heap.size 117 (plC o A nd.length k)) := Lib.hid (Blok.new _ _ _ _ rfl)
  have HG0 : Hid (Grew w (w.alloc (.cells (plC o A nd.length k) 117))) := Lib.hid ((Grew.refl w).alloc _)
  generalize nd.length = n at *
  unfold Gives
  by_cases h30 : 30 < per.length
  · have e1 : decide ((30 : Int) < (per.length : Int)) = true := decide_eq_true (by omega)
    have h30' : (30 : Int) < per.length := by omega
    clear h30
    go_enter Try.func14, Try.ntmps14
    go_upto_region 1 with fail
    obtain ⟨w1, hw1⟩ : ∃ w1, w1 = w.alloc (.cells (plC o A n k) 117) := ⟨_, rfl⟩
    rw [← hw1] at HB0 HG0 ⊢
    clear hw1
    generalize w.heap.size = g at *
    obtain ⟨b0, d0, d1, b1, d3, d4, d5⟩ := boxP HB0.out
    have HMu1 := Lib.hid (HMu.out _ HG0.out)
    unfold plC at HMu1
    go_wp2_with fail
    refine HMu1.out.mono ?_
    rintro e w2 ⟨t, rfl, hg2, _⟩
    have HG2 := Lib.hid (HG0.out.trans hg2)
    clear hg2 HMu HMu1
    cases t
    all_goals
      go_wp2_with (go_at_call 95; (with_reducible refine (live33_any _).grows.mono ?_); rintro e w5 ⟨rfl, hg5⟩; have HG5 := Lib.hid (HG2.out.trans hg5); clear hg5)
      go_ret
      exact ⟨rfl, HG5.out⟩
  have e1 : decide ((30 : Int) < (per.length : Int)) = false := decide_eq_false (by omega)
  have h30' : (per.length : Int) ≤ 30 := by omega
  go_enter Try.func14, Try.ntmps14
  go_upto_region 1 with fail
  obtain ⟨w1, hw1⟩ : ∃ w1, w1 = w.alloc (.cells (plC o A n k) 117) := ⟨_, rfl⟩
  rw [← hw1] at HB0 HG0 ⊢
  clear hw1
  generalize w.heap.size = g at *
  obtain ⟨b0, d0, d1, b1, d3, d4, d5⟩ := boxP HB0.out
  have HMu1 := Lib.hid (HMu.out _ HG0.out)
  unfold plC at HMu1
  go_wp2_with fail
  refine HMu1.out.mono ?_
  rintro e w2 ⟨t, rfl, hg2, hgood⟩
  have HG2 := Lib.hid (HG0.out.trans hg2)
  have HB2 := Lib.hid (HB0.out.grew hg2)
  have HGood := Lib.hid hgood
  clear hg2 HMu HMu1 hgood b0 d0 d1 b1 d3 d4 d5
  cases t
  rotate_left
  · go_wp2_with (go_at_call 95; (with_reducible refine (live33_any _).grows.mono ?_); rintro e w5 ⟨rfl, hg5⟩; have HG5 := Lib.hid (HG2.out.trans hg5); clear hg5)
    go_ret
    exact ⟨rfl, HG5.out⟩
  obtain ⟨hn, _⟩ := HGood.out rfl
  have HBd1 := Lib.hid (HBd.out hn)
  have HRb1 := Lib.hid (HRb.out hn)
  unfold plC at HBd1 HRb1
  clear HGood HBd HRb
  obtain ⟨b0, d0, d1, b1, d3, d4, d5⟩ := boxP HB2.out
  go_wp2_with (first
    | (go_at_call 105; (with_reducible refine (HBd1.out _ HG2.out).grows.mono ?_); rintro e w3 ⟨rfl, hg3⟩; have HG3 := Lib.hid (HG2.out.trans hg3); have HB3 := Lib.hid (HB2.out.grew hg3); clear hg3)
    | (go_at_call 106; (with_reducible refine (HBa.out _).grows.mono ?_); rintro e w4 ⟨rfl, hg4⟩; have HG4 := Lib.hid (HG3.out.trans hg4); have HB4 := Lib.hid (HB3.out.grew hg4); clear hg4)
    | (go_at_call 107; (with_reducible refine (HRa.out _).grows.mono ?_); rintro e w5 ⟨rfl, hg5⟩; have HG5 := Lib.hid (HG4.out.trans hg5); have HB5 := Lib.hid (HB4.out.grew hg5); clear hg5 b0 d0 d1 b1 d3 d4 d5; obtain ⟨b0, d0, d1, b1, d3, d4, d5⟩ := boxP HB5.out)
    | (go_at_call 108; (with_reducible refine (HRb1.out _ HG5.out).grows.mono ?_); rintro e w6 ⟨rfl, hg6⟩; have HG6 := Lib.hid (HG5.out.trans hg6); have HB6 := Lib.hid (HB5.out.grew hg6); clear hg6))
  clear b0 d0 d1 b1 d3 d4 d5 HBd1 HRb1 HBa HRa HB2 HB3 HB4 HB5 HG2 HG3 HG4 HG5 HB0
  go_loopw [10, 11] (fun x10 x11 wr => RbAt w6 per x10 x11 wr) (fun _ x _ => per.length - (intOf x).toNat)
  case atStart => exact ⟨0, Nat.zero_le _, rfl, rfl, by simp, Grew.refl _⟩
  case round =>
    obtain ⟨i, hi, rfl, rfl, hk, hg⟩ := hrel
    have hsn := sumI_in hk
    have HK := Lib.hid hk
    have HG := Lib.hid (HG6.out.trans hg)
    have HGw := Lib.hid hg
    clear hk hg
    rw [List.length_take, Nat.min_eq_left hi] at hsn
    by_cases h1 : i < per.length
    · obtain ⟨b2, o2, rfl, hb2, hc2⟩ := rowI_at (RP.out.grew HG.out) h1
      have HS : Hid (sumI (per.take (i + 1)) = sumI (per.take i) + per[i]) := Lib.hid (by rw [List.take_succ_eq_append_getElem h1, sumI_snoc])
      have HK2 : Hid (0 ≤ per[i] → per[i] ≤ 1099511627776 → ∀ x ∈ per.take (i + 1), 0 ≤ x ∧ x ≤ 1099511627776) := Lib.hid fun q1 q2 x hx => by
        rw [List.take_succ_eq_append_getElem h1] at hx
        rcases List.mem_append.1 hx with hx | hx
        · exact HK.out x hx
        · rw [List.mem_singleton.1 hx]; exact ⟨q1, q2⟩
      generalize sumI (per.take i) = s at *
      generalize per[i] = r at *
      have hs0 : 0 ≤ s := hsn.1
      have hs1 : s ≤ 32985348833280 := by omega
      clear hsn HK
      by_cases hr0 : r < 0
      · go_wp2_with (go_at_call 95; (with_reducible refine (live33_any _).grows.mono ?_); rintro e w7 ⟨rfl, hg7⟩; have HG7 := Lib.hid (HG.out.trans hg7); clear hg7)
        go_ret
        exact ⟨rfl, HG7.out⟩
      · have hr0' : 0 ≤ r := by omega
        by_cases hr1 : 1099511627776 < r
        · go_wp2_with (go_at_call 95; (with_reducible refine (live33_any _).grows.mono ?_); rintro e w7 ⟨rfl, hg7⟩; have HG7 := Lib.hid (HG.out.trans hg7); clear hg7)
          go_ret
          exact ⟨rfl, HG7.out⟩
        · have hr1' : r ≤ 1099511627776 := by omega
          have hadd : IntKind.i64.wrap (s + r) = s + r := IntWalk.i64_in _ (by omega)
          have HK3 := Lib.hid (HK2.out hr0' hr1')
          clear hr0 hr1 HK2
          go_wp2
          exact ⟨⟨i + 1, by omega, by rw [HS.out], by go_num, HK3.out, HGw.out⟩, by simp only [intOf]; omega⟩
    · obtain rfl : i = per.length := by omega
      rw [List.take_length] at HK hsn ⊢
      have HL := Lib.hid (fun h1 => HLe.out h1 fun x hx => (HK.out x hx).1)
      generalize sumI per = s at *
      have hs0 : 0 ≤ s := hsn.1
      have hs1 : s ≤ 32985348833280 := by omega
      clear hsn HK HLe h1 hi
      have HB := Lib.hid (HB6.out.grew HGw.out)
      clear HB6 HGw
      by_cases hb1 : b < 1
      · go_upto_region 13 with fail
        refine wp_region_grew (by kernel_rfl) ?_
        refine held_take 0 (v := ?_) rfl (by kernel_rfl) (by kernel_rfl) (by kernel_rfl) (fun _ _ _ h => h) (by rfl) ?_ (Grew.refl _).drew ?_
        rotate_left
        · (intro W hW; go_simp; with_reducible rfl)
        refine held_take 1 (v := ?_) rfl (by kernel_rfl) (by kernel_rfl) (by kernel_rfl) (fun _ _ _ h => h) (by rfl) ?_ (Grew.refl _).drew ?_
        rotate_left
        · (intro W hW; go_simp; with_reducible rfl)
        refine held_take 2 (v := ?_) rfl (by kernel_rfl) (by kernel_rfl) (by kernel_rfl) (fun _ _ _ h => h) (by rfl) ?_ (Grew.refl _).drew ?_
        rotate_left
        · (intro W hW; go_simp; with_reducible rfl)
        refine held_norm (a' := ?_) ?_ ?_
        rotate_left
        · (go_simp; with_reducible rfl)
        refine held_skip 3 rfl (by kernel_rfl) (by kernel_rfl) (by kernel_rfl) (fun _ _ _ h => h) (by rfl) (Grew.refl _).drew ?_
        refine held_norm (a' := ?_) ?_ ?_
        rotate_left
        · (go_simp; with_reducible rfl)
        refine held_skip 4 rfl (by kernel_rfl) (by kernel_rfl) (by kernel_rfl) (fun _ _ _ h => h) (by rfl) (Grew.refl _).drew ?_
        refine held_norm (a' := ?_) ?_ ?_
        rotate_left
        · (go_simp; with_reducible rfl)
        refine held_skip 5 rfl (by kernel_rfl) (by kernel_rfl) (by kernel_rfl) (fun _ _ _ h => h) (by rfl) (Grew.refl _).drew ?_
        refine held_norm (a' := ?_) ?_ ?_
        rotate_left
        · (go_simp; with_reducible rfl)
        refine held_skip 6 rfl (by kernel_rfl) (by kernel_rfl) (by kernel_rfl) (fun _ _ _ h => h) (by rfl) (Grew.refl _).drew ?_
        refine held_norm (a' := ?_) ?_ ?_
        rotate_left
        · (go_simp; with_reducible rfl)
        refine held_skip 7 rfl (by kernel_rfl) (by kernel_rfl) (by kernel_rfl) (fun _ _ _ h => h) (by rfl) (Grew.refl _).drew ?_
        refine held_norm (a' := ?_) ?_ ?_
        rotate_left
        · (go_simp; with_reducible rfl)
        refine held_skip 8 rfl (by kernel_rfl) (by kernel_rfl) (by kernel_rfl) (fun _ _ _ h => h) (by rfl) (Grew.refl _).drew ?_
        refine held_norm (a' := ?_) ?_ ?_
        rotate_left
        · (go_simp; with_reducible rfl)
        refine held_skip 9 rfl (by kernel_rfl) (by kernel_rfl) (by kernel_rfl) (fun _ _ _ h => h) (by rfl) (Grew.refl _).drew ?_
        refine held_norm (a' := ?_) ?_ ?_
        rotate_left
        · (go_simp; with_reducible rfl)
        refine held_skip 10 rfl (by kernel_rfl) (by kernel_rfl) (by kernel_rfl) (fun _ _ _ h => h) (by rfl) (Grew.refl _).drew ?_
        refine held_norm (a' := ?_) ?_ ?_
        rotate_left
        · (go_simp; with_reducible rfl)
        refine held_skip 11 rfl (by kernel_rfl) (by kernel_rfl) (by kernel_rfl) (fun _ _ _ h => h) (by rfl) (Grew.refl _).drew ?_
        refine held_norm (a' := ?_) ?_ ?_
        rotate_left
        · (go_simp; with_reducible rfl)
        refine held_take 12 (v := ?_) rfl (by kernel_rfl) (by kernel_rfl) (by kernel_rfl) (fun _ _ _ h => h) (by rfl) ?_ (Grew.refl _).drew ?_
        rotate_left
        · (intro W hW; go_simp; with_reducible rfl)
        refine held_take 13 (v := ?_) rfl (by kernel_rfl) (by kernel_rfl) (by kernel_rfl) (fun _ _ _ h => h) (by rfl) ?_ (Grew.refl _).drew ?_
        rotate_left
        · (intro W hW; go_simp; with_reducible rfl)
        refine held_norm (a' := ?_) ?_ ?_
        rotate_left
        · (go_simp; with_reducible rfl)
        refine held_call 14 (by kernel_rfl) rfl (by rfl) (fun K hK => ?_)
        go_simp
        go_wp2_with (go_at_call 95; (with_reducible refine (live33_any _).grows.mono ?_); rintro e w7 ⟨rfl, hg7⟩; have G7 := Lib.hid ((Grew.refl wr).drew.trans hg7); clear hg7)
        refine hK.out _ _ G7.out ?_
        clear hK K
        refine held_take 15 (v := ?_) rfl (by kernel_rfl) (by kernel_rfl) (by kernel_rfl) (fun _ _ _ h => h) (by rfl) ?_ G7.out ?_
        rotate_left
        · (intro W hW; go_simp; with_reducible rfl)
        refine held_take 16 (v := ?_) rfl (by kernel_rfl) (by kernel_rfl) (by kernel_rfl) (fun _ _ _ h => h) (by rfl) ?_ G7.out ?_
        rotate_left
        · (intro W hW; go_simp; with_reducible rfl)
        refine held_norm (a' := ?_) ?_ ?_
        rotate_left
        · (go_simp; with_reducible rfl)
        refine held_done (by kernel_rfl) ?_
        go_wp2
        go_ret
        exact ⟨rfl, HG.out.trans G7.out⟩
      · have hb1' : 1 ≤ b := by omega
        obtain ⟨q, hq⟩ : ∃ q, s / b = q := ⟨_, rfl⟩
        have hq0 : 0 ≤ q := by rw [← hq]; exact Int.ediv_nonneg hs0 (by omega)
        have hq1 : q ≤ s := by rw [← hq]; exact Int.ediv_le_self _ hs0
        have hquo : IntKind.i64.wrap (s.tdiv b) = q := by
          rw [Int.tdiv_eq_ediv_of_nonneg hs0, hq]
          exact IntWalk.i64_in _ (by omega)
        have hz : b ≠ 0 := by omega
        have hadd : IntKind.i64.wrap ((n : Int) + q) = (n : Int) + q := IntWalk.i64_in _ (by omega)
        have hle : bd ≤ (n : Int) + q := by rw [← hq]; exact HL.out hb1'
        have hled : decide (bd ≤ (n : Int) + q) = true := decide_eq_true hle
        clear HL hq
        go_upto_region 13 with fail
        refine wp_region_grew (by kernel_rfl) ?_
        refine held_take 0 (v := ?_) rfl (by kernel_rfl) (by kernel_rfl) (by kernel_rfl) (fun _ _ _ h => h) (by rfl) ?_ (Grew.refl _).drew ?_
        rotate_left
        · (intro W hW; go_simp; with_reducible rfl)
        refine held_take 1 (v := ?_) rfl (by kernel_rfl) (by kernel_rfl) (by kernel_rfl) (fun _ _ _ h => h) (by rfl) ?_ (Grew.refl _).drew ?_
        rotate_left
        · (intro W hW; go_simp; with_reducible rfl)
        refine held_take 2 (v := ?_) rfl (by kernel_rfl) (by kernel_rfl) (by kernel_rfl) (fun _ _ _ h => h) (by rfl) ?_ (Grew.refl _).drew ?_
        rotate_left
        · (intro W hW; go_simp; with_reducible rfl)
        refine held_take 3 (v := ?_) rfl (by kernel_rfl) (by kernel_rfl) (by kernel_rfl) (fun _ _ _ h => h) (by rfl) ?_ (Grew.refl _).drew ?_
        rotate_left
        · (intro W hW; go_simp; with_reducible rfl)
        refine held_norm (a' := ?_) ?_ ?_
        rotate_left
        · (go_simp; with_reducible rfl)
        refine held_take 4 (v := ?_) rfl (by kernel_rfl) (by kernel_rfl) (by kernel_rfl) (fun _ _ _ h => h) (by rfl) ?_ (Grew.refl _).drew ?_
        rotate_left
        · (intro W hW; obtain ⟨b0, d0, d1, b1, d3, d4, d5⟩ := boxP (HB.out.grew hW); go_simp; with_reducible rfl)
        refine held_take 5 (v := ?_) rfl (by kernel_rfl) (by kernel_rfl) (by kernel_rfl) (fun _ _ _ h => h) (by rfl) ?_ (Grew.refl _).drew ?_
        rotate_left
        · (intro W hW; obtain ⟨b0, d0, d1, b1, d3, d4, d5⟩ := boxP (HB.out.grew hW); go_simp; with_reducible rfl)
        refine held_take 6 (v := ?_) rfl (by kernel_rfl) (by kernel_rfl) (by kernel_rfl) (fun _ _ _ h => h) (by rfl) ?_ (Grew.refl _).drew ?_
        rotate_left
        · (intro W hW; obtain ⟨b0, d0, d1, b1, d3, d4, d5⟩ := boxP (HB.out.grew hW); go_simp; with_reducible rfl)
        refine held_norm (a' := ?_) ?_ ?_
        rotate_left
        · (go_simp; with_reducible rfl)
        refine held_take 7 (v := ?_) rfl (by kernel_rfl) (by kernel_rfl) (by kernel_rfl) (fun _ _ _ h => h) (by rfl) ?_ (Grew.refl _).drew ?_
        rotate_left
        · (intro W hW; go_simp; with_reducible rfl)
        refine held_take 8 (v := ?_) rfl (by kernel_rfl) (by kernel_rfl) (by kernel_rfl) (fun _ _ _ h => h) (by rfl) ?_ (Grew.refl _).drew ?_
        rotate_left
        · (intro W hW; go_simp; with_reducible rfl)
        refine held_take 9 (v := ?_) rfl (by kernel_rfl) (by kernel_rfl) (by kernel_rfl) (fun _ _ _ h => h) (by rfl) ?_ (Grew.refl _).drew ?_
        rotate_left
        · (intro W hW; go_simp; with_reducible rfl)
        refine held_take 10 (v := ?_) rfl (by kernel_rfl) (by kernel_rfl) (by kernel_rfl) (fun _ _ _ h => h) (by rfl) ?_ (Grew.refl _).drew ?_
        rotate_left
        · (intro W hW; go_simp; with_reducible rfl)
        refine held_take 11 (v := ?_) rfl (by kernel_rfl) (by kernel_rfl) (by kernel_rfl) (fun _ _ _ h => h) (by rfl) ?_ (Grew.refl _).drew ?_
        rotate_left
        · (intro W hW; go_simp; with_reducible rfl)
        refine held_take 12 (v := ?_) rfl (by kernel_rfl) (by kernel_rfl) (by kernel_rfl) (fun _ _ _ h => h) (by rfl) ?_ (Grew.refl _).drew ?_
        rotate_left
        · (intro W hW; go_simp; with_reducible rfl)
        refine held_take 13 (v := ?_) rfl (by kernel_rfl) (by kernel_rfl) (by kernel_rfl) (fun _ _ _ h => h) (by rfl) ?_ (Grew.refl _).drew ?_
        rotate_left
        · (intro W hW; go_simp; with_reducible rfl)
        refine held_norm (a' := ?_) ?_ ?_
        rotate_left
        · (go_simp; with_reducible rfl)
        refine held_call 14 (by kernel_rfl) rfl (by rfl) (fun K hK => ?_)
        go_simp
        go_wp2_with (go_at_call 95; (with_reducible refine (live33_any _).grows.mono ?_); rintro e w7 ⟨rfl, hg7⟩; have G7 := Lib.hid ((Grew.refl wr).drew.trans hg7); clear hg7)
        refine hK.out _ _ G7.out ?_
        clear hK K
        refine held_take 15 (v := ?_) rfl (by kernel_rfl) (by kernel_rfl) (by kernel_rfl) (fun _ _ _ h => h) (by rfl) ?_ G7.out ?_
        rotate_left
        · (intro W hW; go_simp; with_reducible rfl)
        refine held_take 16 (v := ?_) rfl (by kernel_rfl) (by kernel_rfl) (by kernel_rfl) (fun _ _ _ h => h) (by rfl) ?_ G7.out ?_
        rotate_left
        · (intro W hW; go_simp; with_reducible rfl)
        refine held_norm (a' := ?_) ?_ ?_
        rotate_left
        · (go_simp; with_reducible rfl)
        refine held_done (by kernel_rfl) ?_
        go_wp2
        go_ret
        exact ⟨rfl, HG.out.trans G7.out⟩
end Go.Proofs.Ytfdjnhnchibejaa
