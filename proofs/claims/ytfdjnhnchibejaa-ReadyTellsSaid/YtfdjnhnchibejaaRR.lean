/- Layer 33: the document's own levels. Condition: no more than a thousand pipes. -/
import Derived.Test.YtfdjnhnchibejaaRdy6

/- Layer 33: what may go on now, by the program and by the document. Condition: no more than a thousand pipes. -/
namespace Go.Proofs.Ytfdjnhnchibejaa
open Go.RowKit
attribute [local go_sem] more_cell more_frozen more_more more_setCell more_of_drew more_of_drewN lt_more le_more past_cell past_cell2 past_frozen past_frozen2 past_setCell past_setCell2 mid_cell mid_frozen mid_setCell
attribute [local go_sem ↓] Go.wp_at_zero Go.wp_at_succ

def needI (n : Nat) (dn : List Bool) (x : Int) : Bool := decide (x < n) && thI dn.length dn x
def readyI (nd : List (List Int)) (n : Nat) (dn : List Bool) (t : Int) : Bool := decide (0 ≤ t) && (decide (t < n) && (!(thI dn.length dn t) && (edgeAt nd t.toNat).all (needI n dn)))
theorem readyI_low {nd : List (List Int)} {n : Nat} {dn : List Bool} {t : Int} (h : t < 0) : readyI nd n dn t = false := by
  unfold readyI
  rw [decide_eq_false (show ¬ 0 ≤ t by omega)]
  rfl
theorem readyI_high {nd : List (List Int)} {n : Nat} {dn : List Bool} {t : Int} (h : (n : Int) ≤ t) : readyI nd n dn t = false := by
  unfold readyI
  rw [decide_eq_false (show ¬ t < n by omega), Bool.false_and, Bool.and_false]
theorem readyI_is {nd : List (List Int)} {n : Nat} {dn : List Bool} {t : Int} (h : thI dn.length dn t = true) : readyI nd n dn t = false := by
  unfold readyI
  rw [h, Bool.not_true, Bool.false_and, Bool.and_false, Bool.and_false]
theorem readyI_in {nd : List (List Int)} {n t : Nat} {dn : List Bool} (h : t < n) (hf : thI dn.length dn (t : Int) = false) : readyI nd n dn (t : Int) = (edgeAt nd t).all (needI n dn) := by
  unfold readyI
  rw [hf, decide_eq_true (show (0 : Int) ≤ (t : Int) by omega), decide_eq_true (show (t : Int) < (n : Int) by omega), Int.toNat_natCast]
  rfl
theorem is33_any (l : List Bool) (B : Option Addr) (c : Nat) (i : Int) (w : World) (rb : Row w B (bL l)) :
    Gives Try.prog 170 #[.slice B l.length c, .int .i64 i] w (.bool (thI l.length l i)) := by
  have RB := Lib.hid rb
  obtain ⟨t, ht⟩ : ∃ t, thI l.length l i = t := ⟨_, rfl⟩
  rw [ht]
  have HT := Lib.hid ht
  clear rb ht
  unfold Gives
  by_cases h0 : 0 ≤ i
  · obtain ⟨j, rfl⟩ : ∃ j : Nat, i = (j : Int) := ⟨i.toNat, by omega⟩
    have e0 : decide ((0 : Int) ≤ (j : Int)) = true := decide_eq_true h0
    by_cases h2 : (j : Int) < l.length
    · have e2 : decide ((j : Int) < (l.length : Int)) = true := decide_eq_true h2
      obtain ⟨b, o, rfl, hb, hc⟩ := boolrow_at RB.out (show j < l.length by omega)
      obtain rfl : t = thB l j := by rw [← HT.out, thI_nat (by omega)]
      clear HT
      generalize thB l j = q at *
      go_enter Try.func170, Try.ntmps170
      go_wp2
      go_ret
      exact ⟨rfl, by (show Grew _ _; repeat (first | exact Grew.refl _ | refine Grew.alloc ?_ _ | refine Grew.drew ?_ | refine Grew.more ?_ _))⟩
    · have e2 : decide ((j : Int) < (l.length : Int)) = false := decide_eq_false h2
      obtain rfl : t = false := by rw [← HT.out]; unfold thI; rw [e2]; simp
      have h2' : (l.length : Int) ≤ j := by omega
      clear HT h2
      go_enter Try.func170, Try.ntmps170
      go_wp2
      go_ret
      exact ⟨rfl, by (show Grew _ _; repeat (first | exact Grew.refl _ | refine Grew.alloc ?_ _ | refine Grew.drew ?_ | refine Grew.more ?_ _))⟩
  · have e0 : decide ((0 : Int) ≤ i) = false := decide_eq_false h0
    obtain rfl : t = false := by rw [← HT.out]; unfold thI; rw [e0]; simp
    have h0' : i < 0 := by omega
    clear HT h0
    go_enter Try.func170, Try.ntmps170
    go_wp2
    go_ret
    exact ⟨rfl, by (show Grew _ _; repeat (first | exact Grew.refl _ | refine Grew.alloc ?_ _ | refine Grew.drew ?_ | refine Grew.more ?_ _))⟩
theorem ris33_any (l : List Bool) (B : Option Addr) (c : Nat) (i : Int) (w : World) (rb : Row w B (bL l)) :
    Gives Try.prog 171 #[.slice B l.length c, .int .i64 i] w (.bool (thI l.length l i)) := by
  have RB := Lib.hid rb
  obtain ⟨t, ht⟩ : ∃ t, thI l.length l i = t := ⟨_, rfl⟩
  rw [ht]
  have HT := Lib.hid ht
  clear rb ht
  unfold Gives
  by_cases h0 : 0 ≤ i
  · obtain ⟨j, rfl⟩ : ∃ j : Nat, i = (j : Int) := ⟨i.toNat, by omega⟩
    have e0 : decide ((0 : Int) ≤ (j : Int)) = true := decide_eq_true h0
    by_cases h2 : (j : Int) < l.length
    · have e2 : decide ((j : Int) < (l.length : Int)) = true := decide_eq_true h2
      obtain ⟨b, o, rfl, hb, hc⟩ := boolrow_at RB.out (show j < l.length by omega)
      obtain rfl : t = thB l j := by rw [← HT.out, thI_nat (by omega)]
      clear HT
      generalize thB l j = q at *
      go_enter Try.func171, Try.ntmps171
      go_wp2
      go_ret
      exact ⟨rfl, by (show Grew _ _; repeat (first | exact Grew.refl _ | refine Grew.alloc ?_ _ | refine Grew.drew ?_ | refine Grew.more ?_ _))⟩
    · have e2 : decide ((j : Int) < (l.length : Int)) = false := decide_eq_false h2
      obtain rfl : t = false := by rw [← HT.out]; unfold thI; rw [e2]; simp
      have h2' : (l.length : Int) ≤ j := by omega
      clear HT h2
      go_enter Try.func171, Try.ntmps171
      go_wp2
      go_ret
      exact ⟨rfl, by (show Grew _ _; repeat (first | exact Grew.refl _ | refine Grew.alloc ?_ _ | refine Grew.drew ?_ | refine Grew.more ?_ _))⟩
  · have e0 : decide ((0 : Int) ≤ i) = false := decide_eq_false h0
    obtain rfl : t = false := by rw [← HT.out]; unfold thI; rw [e0]; simp
    have h0' : i < 0 := by omega
    clear HT h0
    go_enter Try.func171, Try.ntmps171
    go_wp2
    go_ret
    exact ⟨rfl, by (show Grew _ _; repeat (first | exact Grew.refl _ | refine Grew.alloc ?_ _ | refine Grew.drew ?_ | refine Grew.more ?_ _))⟩
def RdAt (w : World) (n : Nat) (dn : List Bool) (e : List Int) (x : Value) (wr : World) : Prop := ∃ q : Nat, q ≤ e.length ∧ x = .int .i64 q ∧ Grew w wr ∧ ∀ y ∈ e.take q, needI n dn y = true
set_option maxHeartbeats 4000000 in
set_option maxRecDepth 100000 in
theorem ready33_any (o : Oth) (nd : List (List Int)) (n : Nat) (hn : nd.length = n) (hel : ∀ e ∈ nd, e.length ≤ 30) (dn : List Bool) (B : Option Addr) (c : Nat) (A : Option Addr) (k : Nat) (t : Int) (w : World) (ra : PipsR w A nd) (rb : Row w B (bL dn)) :
    Gives Try.prog 97 #[plV o A n k, .slice B dn.length c, .int .i64 t] w (.bool (readyI nd n dn t)) := by
  have RA := Lib.hid ra
  have HEl := Lib.hid hel
  have HN := Lib.hid hn
  have HIs := Lib.hid (fun x W (hW : Grew w W) => is33_any dn B c x W (rb.grew hW))
  obtain ⟨fin, hfin⟩ : ∃ fin, readyI nd n dn t = fin := ⟨_, rfl⟩
  rw [hfin]
  have HFin := Lib.hid hfin
  clear hel ra rb hfin hn
  unfold Gives
  unfold plV at *
  have HB0 : Hid (Blok (w.alloc (.cells (plC o A n k) 117)) w.heap.size 117 (plC o A n k)) := Lib.hid (Blok.new _ _ _ _ rfl)
  have HG0 : Hid (Grew w (w.alloc (.cells (plC o A n k) 117))) := Lib.hid ((Grew.refl w).alloc _)
  by_cases h0 : t < 0
  · have e0 : decide (t < (0 : Int)) = true := decide_eq_true h0
    obtain rfl : fin = false := by rw [← HFin.out]; exact readyI_low h0
    clear HFin
    go_enter Try.func97, Try.ntmps97
    go_wp2
    go_ret
    exact ⟨rfl, HG0.out⟩
  obtain ⟨t, rfl⟩ : ∃ z : Nat, t = (z : Int) := ⟨t.toNat, by omega⟩
  have e0 : decide ((t : Int) < (0 : Int)) = false := decide_eq_false h0
  by_cases h1 : n ≤ t
  · have e1 : decide ((n : Int) ≤ (t : Int)) = true := decide_eq_true (by omega)
    have h1' : (n : Int) ≤ (t : Int) := by omega
    obtain rfl : fin = false := by rw [← HFin.out]; exact readyI_high h1'
    clear HFin h1
    go_enter Try.func97, Try.ntmps97
    go_upto_region 1 with fail
    obtain ⟨w1, hw1⟩ : ∃ w1, w1 = w.alloc (.cells (plC o A n k) 117) := ⟨_, rfl⟩
    rw [← hw1] at HB0 HG0 ⊢
    clear hw1
    generalize w.heap.size = g at *
    obtain ⟨b0, d0, d1, b1, d3, d4, d5⟩ := boxP HB0.out
    go_wp2
    go_ret
    exact ⟨rfl, HG0.out⟩
  have htn : t < n := by omega
  have e1 : decide ((n : Int) ≤ (t : Int)) = false := decide_eq_false (by omega)
  have e1n : decide (n ≤ t) = false := decide_eq_false (by omega)
  have HIt := Lib.hid (fun W (hW : Grew w W) => HIs.out (t : Int) W hW)
  rcases hq : thI dn.length dn (t : Int) with _ | _
  rotate_left
  · rw [hq] at HIt
    obtain rfl : fin = false := by rw [← HFin.out]; exact readyI_is hq
    clear HFin hq
    go_enter Try.func97, Try.ntmps97
    go_upto_region 1 with fail
    obtain ⟨w1, hw1⟩ : ∃ w1, w1 = w.alloc (.cells (plC o A n k) 117) := ⟨_, rfl⟩
    rw [← hw1] at HB0 HG0 ⊢
    clear hw1
    generalize w.heap.size = g at *
    obtain ⟨b0, d0, d1, b1, d3, d4, d5⟩ := boxP HB0.out
    go_wp2_with (go_at_call 170; (with_reducible refine (HIt.out _ HG0.out).grows.mono ?_); rintro e w6 ⟨rfl, hg6⟩; have HG6 := Lib.hid (HG0.out.trans hg6); clear hg6)
    go_ret
    exact ⟨rfl, HG6.out⟩
  rw [hq] at HIt
  have hih : t < nd.length := by rw [HN.out]; exact htn
  have HAl : Hid ((edgeAt nd t).all (needI n dn) = fin) := Lib.hid (by rw [← HFin.out]; exact (readyI_in htn hq).symm)
  rw [edgeAt_eq hih] at HAl
  clear HFin hq h1 h0
  obtain ⟨pb, po, D, d, rfl, hpb, hpc, hpr⟩ := pips_at RA.out hih
  have hl30 := HEl.out _ (List.getElem_mem hih)
  have HP := Lib.hid (fun W (hW : Grew w W) => And.intro (Nat.lt_of_lt_of_le hpb hW.size) (And.intro ((hW.cell (a := ⟨pb, po + t * 3 + 2, none⟩) hpb).trans hpc) (hpr.grew hW)))
  clear hpb hpc hpr
  generalize nd[t] = e at *
  clear hih
  have HNo : Hid (∀ y ∈ e, needI n dn y = false → fin = false) := Lib.hid fun y hy hf => by
    rw [← HAl.out]
    cases hh : e.all (needI n dn)
    · rfl
    · have := List.all_eq_true.1 hh y hy
      rw [hf] at this
      cases this
  have HYes : Hid ((∀ y ∈ e, needI n dn y = true) → fin = true) := Lib.hid fun h => by rw [← HAl.out]; exact List.all_eq_true.2 h
  clear HAl
  go_enter Try.func97, Try.ntmps97
  go_upto_region 1 with fail
  obtain ⟨w1, hw1⟩ : ∃ w1, w1 = w.alloc (.cells (plC o (some ⟨pb, po, none⟩) n k) 117) := ⟨_, rfl⟩
  rw [← hw1] at HB0 HG0 ⊢
  clear hw1
  generalize w.heap.size = g at *
  obtain ⟨b0, d0, d1, b1, d3, d4, d5⟩ := boxP HB0.out
  go_wp2_with (go_at_call 170; (with_reducible refine (HIt.out _ HG0.out).grows.mono ?_); rintro e w6 ⟨rfl, hg6⟩; have HG6 := Lib.hid hg6; clear hg6 b0 d0 d1 b1 d3 d4 d5; obtain ⟨b0, d0, d1, b1, d3, d4, d5⟩ := boxP (HB0.out.grew HG6.out); obtain ⟨p0, p1, _⟩ := HP.out _ (HG0.out.trans HG6.out))
  try clear b0 d0 d1 b1 d3 d4 d5 p0 p1
  try simp only [e1n]
  go_loopw [30] (fun x wr => RdAt w1 n dn e x wr) (fun x _ => e.length - (intOf x).toNat)
  case atStart => exact ⟨0, Nat.zero_le _, rfl, HG6.out, by simp⟩
  case round =>
    obtain ⟨q, hq, rfl, hg, hk⟩ := hrel
    have HG := Lib.hid hg
    have HK := Lib.hid hk
    clear hg hk HG6
    obtain ⟨b0, d0, d1, b1, d3, d4, d5⟩ := boxP (HB0.out.grew HG.out)
    obtain ⟨p0, p1, hpr⟩ := HP.out _ (HG0.out.trans HG.out)
    by_cases h2 : q < e.length
    · obtain ⟨b2, o2, rfl, hb2, hc2⟩ := rowI_at hpr h2
      have HIx := Lib.hid (fun W (hW : Grew w W) => HIs.out e[q] W hW)
      have HN1 := Lib.hid (HNo.out e[q] (List.getElem_mem h2))
      have HT : Hid (needI n dn e[q] = true → ∀ y ∈ e.take (q + 1), needI n dn y = true) := Lib.hid fun h y hy => by
        rw [List.take_succ_eq_append_getElem h2] at hy
        rcases List.mem_append.1 hy with hy | hy
        · exact HK.out y hy
        · rw [List.mem_singleton.1 hy]; exact h
      clear HK HNo
      generalize e[q] = x at *
      by_cases hx : (n : Int) ≤ x
      · have ex : decide ((n : Int) ≤ x) = true := decide_eq_true hx
        obtain rfl : fin = false := HN1.out (by unfold needI; rw [decide_eq_false (show ¬ x < n by omega)]; rfl)
        clear HN1 HT HIx
        go_wp2
        go_ret
        exact ⟨rfl, HG0.out.trans HG.out⟩
      · have ex : decide ((n : Int) ≤ x) = false := decide_eq_false hx
        have ex2 : decide (x < (n : Int)) = true := decide_eq_true (by omega)
        have hne : needI n dn x = thI dn.length dn x := by unfold needI; rw [ex2, Bool.true_and]
        rw [hne] at HT HN1
        rcases hr : thI dn.length dn x with _ | _
        · rw [hr] at HIx
          obtain rfl : fin = false := HN1.out hr
          have hx' : x < (n : Int) := by omega
          clear HN1 HT hr hne hx ex2
          go_wp2_with (go_at_call 170; (with_reducible refine (HIx.out _ (HG0.out.trans HG.out)).grows.mono ?_); rintro e w6 ⟨rfl, hg6⟩; have HG6 := Lib.hid (HG.out.trans hg6); clear hg6)
          go_ret
          exact ⟨rfl, HG0.out.trans HG6.out⟩
        · rw [hr] at HIx
          have HT1 := Lib.hid (HT.out hr)
          have hx' : x < (n : Int) := by omega
          clear HN1 HT hr hne hx ex2
          go_wp2_with (go_at_call 170; (with_reducible refine (HIx.out _ (HG0.out.trans HG.out)).grows.mono ?_); rintro e w6 ⟨rfl, hg6⟩; have HG6 := Lib.hid (HG.out.trans hg6); clear hg6)
          exact ⟨⟨q + 1, by omega, by go_num, HG6.out, HT1.out⟩, by simp only [intOf]; omega⟩
    · obtain rfl : q = e.length := by omega
      rw [List.take_length] at HK
      obtain rfl := HYes.out HK.out
      clear HYes HNo HK
      go_wp2
      go_ret
      exact ⟨rfl, HG0.out.trans HG.out⟩
def rRdAt (w : World) (n : Nat) (dn : List Bool) (e : List Int) (x : Value) (wr : World) : Prop := ∃ q : Nat, q ≤ e.length ∧ x = .int .i64 q ∧ Grew w wr ∧ ∀ y ∈ e.take q, needI n dn y = true
set_option maxHeartbeats 4000000 in
set_option maxRecDepth 100000 in
theorem rready33_any (o : Oth) (nd : List (List Int)) (n : Nat) (hn : nd.length = n) (hel : ∀ e ∈ nd, e.length ≤ 30) (dn : List Bool) (B : Option Addr) (c : Nat) (A : Option Addr) (k : Nat) (t : Int) (w : World) (ra : PipsR w A nd) (rb : Row w B (bL dn)) :
    Gives Try.prog 98 #[plV o A n k, .slice B dn.length c, .int .i64 t] w (.bool (readyI nd n dn t)) := by
  have RA := Lib.hid ra
  have HEl := Lib.hid hel
  have HN := Lib.hid hn
  have HIs := Lib.hid (fun x W (hW : Grew w W) => ris33_any dn B c x W (rb.grew hW))
  obtain ⟨fin, hfin⟩ : ∃ fin, readyI nd n dn t = fin := ⟨_, rfl⟩
  rw [hfin]
  have HFin := Lib.hid hfin
  clear hel ra rb hfin hn
  unfold Gives
  unfold plV at *
  have HB0 : Hid (Blok (w.alloc (.cells (plC o A n k) 117)) w.heap.size 117 (plC o A n k)) := Lib.hid (Blok.new _ _ _ _ rfl)
  have HG0 : Hid (Grew w (w.alloc (.cells (plC o A n k) 117))) := Lib.hid ((Grew.refl w).alloc _)
  by_cases h0 : t < 0
  · have e0 : decide (t < (0 : Int)) = true := decide_eq_true h0
    obtain rfl : fin = false := by rw [← HFin.out]; exact readyI_low h0
    clear HFin
    go_enter Try.func98, Try.ntmps98
    go_wp2
    go_ret
    exact ⟨rfl, HG0.out⟩
  obtain ⟨t, rfl⟩ : ∃ z : Nat, t = (z : Int) := ⟨t.toNat, by omega⟩
  have e0 : decide ((t : Int) < (0 : Int)) = false := decide_eq_false h0
  by_cases h1 : n ≤ t
  · have e1 : decide ((n : Int) ≤ (t : Int)) = true := decide_eq_true (by omega)
    have h1' : (n : Int) ≤ (t : Int) := by omega
    obtain rfl : fin = false := by rw [← HFin.out]; exact readyI_high h1'
    clear HFin h1
    go_enter Try.func98, Try.ntmps98
    go_upto_region 1 with fail
    obtain ⟨w1, hw1⟩ : ∃ w1, w1 = w.alloc (.cells (plC o A n k) 117) := ⟨_, rfl⟩
    rw [← hw1] at HB0 HG0 ⊢
    clear hw1
    generalize w.heap.size = g at *
    obtain ⟨b0, d0, d1, b1, d3, d4, d5⟩ := boxP HB0.out
    go_wp2
    go_ret
    exact ⟨rfl, HG0.out⟩
  have htn : t < n := by omega
  have e1 : decide ((n : Int) ≤ (t : Int)) = false := decide_eq_false (by omega)
  have e1n : decide (n ≤ t) = false := decide_eq_false (by omega)
  have HIt := Lib.hid (fun W (hW : Grew w W) => HIs.out (t : Int) W hW)
  rcases hq : thI dn.length dn (t : Int) with _ | _
  rotate_left
  · rw [hq] at HIt
    obtain rfl : fin = false := by rw [← HFin.out]; exact readyI_is hq
    clear HFin hq
    go_enter Try.func98, Try.ntmps98
    go_upto_region 1 with fail
    obtain ⟨w1, hw1⟩ : ∃ w1, w1 = w.alloc (.cells (plC o A n k) 117) := ⟨_, rfl⟩
    rw [← hw1] at HB0 HG0 ⊢
    clear hw1
    generalize w.heap.size = g at *
    obtain ⟨b0, d0, d1, b1, d3, d4, d5⟩ := boxP HB0.out
    go_wp2_with (go_at_call 171; (with_reducible refine (HIt.out _ HG0.out).grows.mono ?_); rintro e w6 ⟨rfl, hg6⟩; have HG6 := Lib.hid (HG0.out.trans hg6); clear hg6)
    go_ret
    exact ⟨rfl, HG6.out⟩
  rw [hq] at HIt
  have hih : t < nd.length := by rw [HN.out]; exact htn
  have HAl : Hid ((edgeAt nd t).all (needI n dn) = fin) := Lib.hid (by rw [← HFin.out]; exact (readyI_in htn hq).symm)
  rw [edgeAt_eq hih] at HAl
  clear HFin hq h1 h0
  obtain ⟨pb, po, D, d, rfl, hpb, hpc, hpr⟩ := pips_at RA.out hih
  have hl30 := HEl.out _ (List.getElem_mem hih)
  have HP := Lib.hid (fun W (hW : Grew w W) => And.intro (Nat.lt_of_lt_of_le hpb hW.size) (And.intro ((hW.cell (a := ⟨pb, po + t * 3 + 2, none⟩) hpb).trans hpc) (hpr.grew hW)))
  clear hpb hpc hpr
  generalize nd[t] = e at *
  clear hih
  have HNo : Hid (∀ y ∈ e, needI n dn y = false → fin = false) := Lib.hid fun y hy hf => by
    rw [← HAl.out]
    cases hh : e.all (needI n dn)
    · rfl
    · have := List.all_eq_true.1 hh y hy
      rw [hf] at this
      cases this
  have HYes : Hid ((∀ y ∈ e, needI n dn y = true) → fin = true) := Lib.hid fun h => by rw [← HAl.out]; exact List.all_eq_true.2 h
  clear HAl
  go_enter Try.func98, Try.ntmps98
  go_upto_region 1 with fail
  obtain ⟨w1, hw1⟩ : ∃ w1, w1 = w.alloc (.cells (plC o (some ⟨pb, po, none⟩) n k) 117) := ⟨_, rfl⟩
  rw [← hw1] at HB0 HG0 ⊢
  clear hw1
  generalize w.heap.size = g at *
  obtain ⟨b0, d0, d1, b1, d3, d4, d5⟩ := boxP HB0.out
  go_wp2_with (go_at_call 171; (with_reducible refine (HIt.out _ HG0.out).grows.mono ?_); rintro e w6 ⟨rfl, hg6⟩; have HG6 := Lib.hid hg6; clear hg6 b0 d0 d1 b1 d3 d4 d5; obtain ⟨b0, d0, d1, b1, d3, d4, d5⟩ := boxP (HB0.out.grew HG6.out); obtain ⟨p0, p1, _⟩ := HP.out _ (HG0.out.trans HG6.out))
  try clear b0 d0 d1 b1 d3 d4 d5 p0 p1
  try simp only [e1n]
  go_loopw [7] (fun x wr => rRdAt w1 n dn e x wr) (fun x _ => e.length - (intOf x).toNat)
  case atStart => exact ⟨0, Nat.zero_le _, rfl, HG6.out, by simp⟩
  case round =>
    obtain ⟨q, hq, rfl, hg, hk⟩ := hrel
    have HG := Lib.hid hg
    have HK := Lib.hid hk
    clear hg hk HG6
    obtain ⟨b0, d0, d1, b1, d3, d4, d5⟩ := boxP (HB0.out.grew HG.out)
    obtain ⟨p0, p1, hpr⟩ := HP.out _ (HG0.out.trans HG.out)
    by_cases h2 : q < e.length
    · obtain ⟨b2, o2, rfl, hb2, hc2⟩ := rowI_at hpr h2
      have HIx := Lib.hid (fun W (hW : Grew w W) => HIs.out e[q] W hW)
      have HN1 := Lib.hid (HNo.out e[q] (List.getElem_mem h2))
      have HT : Hid (needI n dn e[q] = true → ∀ y ∈ e.take (q + 1), needI n dn y = true) := Lib.hid fun h y hy => by
        rw [List.take_succ_eq_append_getElem h2] at hy
        rcases List.mem_append.1 hy with hy | hy
        · exact HK.out y hy
        · rw [List.mem_singleton.1 hy]; exact h
      clear HK HNo
      generalize e[q] = x at *
      by_cases hx : (n : Int) ≤ x
      · have ex : decide ((n : Int) ≤ x) = true := decide_eq_true hx
        obtain rfl : fin = false := HN1.out (by unfold needI; rw [decide_eq_false (show ¬ x < n by omega)]; rfl)
        clear HN1 HT HIx
        go_wp2
        go_ret
        exact ⟨rfl, HG0.out.trans HG.out⟩
      · have ex : decide ((n : Int) ≤ x) = false := decide_eq_false hx
        have ex2 : decide (x < (n : Int)) = true := decide_eq_true (by omega)
        have hne : needI n dn x = thI dn.length dn x := by unfold needI; rw [ex2, Bool.true_and]
        rw [hne] at HT HN1
        rcases hr : thI dn.length dn x with _ | _
        · rw [hr] at HIx
          obtain rfl : fin = false := HN1.out hr
          have hx' : x < (n : Int) := by omega
          clear HN1 HT hr hne hx ex2
          go_wp2_with (go_at_call 171; (with_reducible refine (HIx.out _ (HG0.out.trans HG.out)).grows.mono ?_); rintro e w6 ⟨rfl, hg6⟩; have HG6 := Lib.hid (HG.out.trans hg6); clear hg6)
          go_ret
          exact ⟨rfl, HG0.out.trans HG6.out⟩
        · rw [hr] at HIx
          have HT1 := Lib.hid (HT.out hr)
          have hx' : x < (n : Int) := by omega
          clear HN1 HT hr hne hx ex2
          go_wp2_with (go_at_call 171; (with_reducible refine (HIx.out _ (HG0.out.trans HG.out)).grows.mono ?_); rintro e w6 ⟨rfl, hg6⟩; have HG6 := Lib.hid (HG.out.trans hg6); clear hg6)
          exact ⟨⟨q + 1, by omega, by go_num, HG6.out, HT1.out⟩, by simp only [intOf]; omega⟩
    · obtain rfl : q = e.length := by omega
      rw [List.take_length] at HK
      obtain rfl := HYes.out HK.out
      clear HYes HNo HK
      go_wp2
      go_ret
      exact ⟨rfl, HG0.out.trans HG.out⟩
end Go.Proofs.Ytfdjnhnchibejaa

/- Layer 33: all that may go on now. Condition: no more than a thousand pipes. -/
namespace Go.Proofs.Ytfdjnhnchibejaa
open Go.RowKit
attribute [local go_sem] more_cell more_frozen more_more more_setCell more_of_drew more_of_drewN lt_more le_more past_cell past_cell2 past_frozen past_frozen2 past_setCell past_setCell2 mid_cell mid_frozen mid_setCell
attribute [local go_sem ↓] Go.wp_at_zero Go.wp_at_succ

def allS (nd : List (List Int)) (n : Nat) (dn : List Bool) (j : Nat) : List Nat := (List.range j).filter fun t => readyI nd n dn (t : Int)
theorem allS_out {nd : List (List Int)} {n : Nat} {dn : List Bool} {j : Nat} (h : readyI nd n dn (j : Int) = false) : allS nd n dn (j + 1) = allS nd n dn j := by
  unfold allS
  rw [List.range_succ, List.filter_append, List.filter_cons, h]
  simp
theorem allS_in {nd : List (List Int)} {n : Nat} {dn : List Bool} {j : Nat} (h : readyI nd n dn (j : Int) = true) : allS nd n dn (j + 1) = allS nd n dn j ++ [j] := by
  unfold allS
  rw [List.range_succ, List.filter_append, List.filter_cons, h]
  simp
theorem allS_len (nd : List (List Int)) (n : Nat) (dn : List Bool) (j : Nat) : (allS nd n dn j).length ≤ j := Nat.le_trans (List.length_filter_le _ _) (by simp)
def AlAt (w : World) (nd : List (List Int)) (n : Nat) (dn : List Bool) (v x : Value) (wr : World) : Prop :=
  ∃ (j : Nat) (A : Option Addr) (c : Nat), j ≤ n ∧ v = .slice A (allS nd n dn j).length c ∧ x = .int .i64 j ∧ Grew w wr ∧ wr.ownsRow w.heap.size 3 1 (.slice A (allS nd n dn j).length c) (allS nd n dn j).length (nL (allS nd n dn j))
theorem all33_any (o : Oth) (nd : List (List Int)) (n : Nat) (hn : nd.length = n) (hn1 : n ≤ 1000) (hel : ∀ e ∈ nd, e.length ≤ 30) (dn : List Bool) (B : Option Addr) (c : Nat) (A : Option Addr) (k : Nat) (w : World) (ra : PipsR w A nd) (rb : Row w B (bL dn)) :
    Calls Try.prog 99 #[plV o A n k, .slice B dn.length c] w (OrdF w (allS nd n dn n)) := by
  have HRe := Lib.hid (fun t W (hW : Grew w W) => ready33_any o nd n hn hel dn B c A k t W (ra.grew hW) (rb.grew hW))
  clear hel ra rb
  unfold plV at *
  have HB0 : Hid (Blok (w.alloc (.cells (plC o A n k) 117)) w.heap.size 117 (plC o A n k)) := Lib.hid (Blok.new _ _ _ _ rfl)
  have HG0 : Hid (Grew w (w.alloc (.cells (plC o A n k) 117))) := Lib.hid ((Grew.refl w).alloc _)
  go_enter Try.func99, Try.ntmps99
  go_upto_region 1 with fail
  obtain ⟨w1, hw1⟩ : ∃ w1, w1 = w.alloc (.cells (plC o A n k) 117) := ⟨_, rfl⟩
  rw [← hw1] at HB0 HG0 ⊢
  clear hw1
  have HLe := Lib.hid HG0.out.size
  have HSz : Hid (w.heap.size ≤ w.heap.size) := Lib.hid (Nat.le_refl _)
  generalize hgg : w.heap.size = g at HB0 ⊢
  obtain ⟨b0, d0, d1, b1, d3, d4, d5⟩ := boxP HB0.out
  go_wp2
  try clear b0 d0 d1 b1 d3 d4 d5
  go_loopw [5, 10] (fun v x wr => AlAt w1 nd n dn v x wr) (fun _ x _ => n - (intOf x).toNat)
  case atStart => exact ⟨0, none, 0, Nat.zero_le _, rfl, rfl, Grew.refl _, own_none _ _ _ _⟩
  case round =>
    obtain ⟨j, A8, c8, hj, rfl, rfl, hg, ho⟩ := hrel
    have HG := Lib.hid hg
    have HO := Lib.hid ho
    clear hg ho
    obtain ⟨b0, d0, d1, b1, d3, d4, d5⟩ := boxP (HB0.out.grew HG.out)
    by_cases h1 : j < n
    · have HRj := Lib.hid (fun W (hW : Grew w W) => HRe.out (j : Int) W hW)
      unfold plC at HRj
      have hll := allS_len nd n dn j
      rcases hr : readyI nd n dn (j : Int) with _ | _
      · rw [hr] at HRj
        have HT := Lib.hid (allS_out hr)
        clear hr
        generalize hoo : allS nd n dn j = oo at *
        clear hoo
        go_wp2_with (go_at_call 97; (with_reducible refine (HRj.out _ (HG0.out.trans HG.out)).grows.mono ?_); rintro e w7 ⟨rfl, hg7⟩; have HG7 := Lib.hid (HG.out.trans hg7); have HO7 := Lib.hid (own_grewU HO.out hg7); clear hg7)
        exact ⟨⟨j + 1, A8, c8, by omega, by rw [HT.out], by go_num, HG7.out, by rw [HT.out]; exact HO7.out⟩, by simp only [intOf]; omega⟩
      · rw [hr] at HRj
        have HT := Lib.hid (allS_in hr)
        clear hr
        generalize hoo : allS nd n dn j = oo at *
        clear hoo
        go_wp2_with (first | (go_at_call 97; (with_reducible refine (HRj.out _ (HG0.out.trans HG.out)).grows.mono ?_); rintro e w7 ⟨rfl, hg7⟩; have HG7 := Lib.hid (HG.out.trans hg7); have HO7 := Lib.hid (own_grewU HO.out hg7); clear hg7) | (at_builtin; refine wpList_app rfl _ _ 38 3 rfl w1 (.int .i64 0) 8 Try.underlying38 infoI rfl (by decide) _ oo.length (nL oo) rfl (own_alloc HO7.out _) _ 1 1 [.int .i64 j] rfl rfl (row_one _ _ _ _ rfl) (by simp [Value.oneCell']) (by omega) (HG7.out.alloc _) ?_; intro A9 c9 w9 ho9 hr9 hg9 hgb9 hor9; have HG9 := Lib.hid hg9; have HO9 := Lib.hid ho9; clear ho9 hr9 hg9 hgb9 hor9))
        exact ⟨⟨j + 1, A9, c9, by omega, by rw [HT.out, List.length_append]; rfl, by go_num, HG9.out, by rw [HT.out, List.length_append, ← nL_snoc]; exact HO9.out⟩, by simp only [intOf]; omega⟩
    · obtain rfl : j = n := by omega
      have HF : Hid (OrdF w (allS nd j dn j) (.returned (.slice A8 (allS nd j dn j).length c8)) wr) := Lib.hid ⟨A8, c8, rfl, HG0.out.trans HG.out, (TRow.own HO.out).low HLe.out⟩
      generalize allS nd j dn j = oo at *
      go_wp2
      all_goals first | exact HF.out | (go_ret; exact HF.out)
theorem rall33_any (o : Oth) (nd : List (List Int)) (n : Nat) (hn : nd.length = n) (hn1 : n ≤ 1000) (hel : ∀ e ∈ nd, e.length ≤ 30) (dn : List Bool) (B : Option Addr) (c : Nat) (A : Option Addr) (k : Nat) (w : World) (ra : PipsR w A nd) (rb : Row w B (bL dn)) :
    Calls Try.prog 100 #[plV o A n k, .slice B dn.length c] w (OrdF w (allS nd n dn n)) := by
  have HRe := Lib.hid (fun t W (hW : Grew w W) => rready33_any o nd n hn hel dn B c A k t W (ra.grew hW) (rb.grew hW))
  clear hel ra rb
  unfold plV at *
  have HB0 : Hid (Blok (w.alloc (.cells (plC o A n k) 117)) w.heap.size 117 (plC o A n k)) := Lib.hid (Blok.new _ _ _ _ rfl)
  have HG0 : Hid (Grew w (w.alloc (.cells (plC o A n k) 117))) := Lib.hid ((Grew.refl w).alloc _)
  go_enter Try.func100, Try.ntmps100
  go_upto_region 1 with fail
  obtain ⟨w1, hw1⟩ : ∃ w1, w1 = w.alloc (.cells (plC o A n k) 117) := ⟨_, rfl⟩
  rw [← hw1] at HB0 HG0 ⊢
  clear hw1
  have HLe := Lib.hid HG0.out.size
  have HSz : Hid (w.heap.size ≤ w.heap.size) := Lib.hid (Nat.le_refl _)
  generalize hgg : w.heap.size = g at HB0 ⊢
  obtain ⟨b0, d0, d1, b1, d3, d4, d5⟩ := boxP HB0.out
  go_wp2
  try clear b0 d0 d1 b1 d3 d4 d5
  go_loopw [5, 6] (fun v x wr => AlAt w1 nd n dn v x wr) (fun _ x _ => n - (intOf x).toNat)
  case atStart => exact ⟨0, none, 0, Nat.zero_le _, rfl, rfl, Grew.refl _, own_none _ _ _ _⟩
  case round =>
    obtain ⟨j, A8, c8, hj, rfl, rfl, hg, ho⟩ := hrel
    have HG := Lib.hid hg
    have HO := Lib.hid ho
    clear hg ho
    obtain ⟨b0, d0, d1, b1, d3, d4, d5⟩ := boxP (HB0.out.grew HG.out)
    by_cases h1 : j < n
    · have HRj := Lib.hid (fun W (hW : Grew w W) => HRe.out (j : Int) W hW)
      unfold plC at HRj
      have hll := allS_len nd n dn j
      rcases hr : readyI nd n dn (j : Int) with _ | _
      · rw [hr] at HRj
        have HT := Lib.hid (allS_out hr)
        clear hr
        generalize hoo : allS nd n dn j = oo at *
        clear hoo
        go_wp2_with (go_at_call 98; (with_reducible refine (HRj.out _ (HG0.out.trans HG.out)).grows.mono ?_); rintro e w7 ⟨rfl, hg7⟩; have HG7 := Lib.hid (HG.out.trans hg7); have HO7 := Lib.hid (own_grewU HO.out hg7); clear hg7)
        exact ⟨⟨j + 1, A8, c8, by omega, by rw [HT.out], by go_num, HG7.out, by rw [HT.out]; exact HO7.out⟩, by simp only [intOf]; omega⟩
      · rw [hr] at HRj
        have HT := Lib.hid (allS_in hr)
        clear hr
        generalize hoo : allS nd n dn j = oo at *
        clear hoo
        go_wp2_with (first | (go_at_call 98; (with_reducible refine (HRj.out _ (HG0.out.trans HG.out)).grows.mono ?_); rintro e w7 ⟨rfl, hg7⟩; have HG7 := Lib.hid (HG.out.trans hg7); have HO7 := Lib.hid (own_grewU HO.out hg7); clear hg7) | (at_builtin; refine wpList_app rfl _ _ 38 3 rfl w1 (.int .i64 0) 8 Try.underlying38 infoI rfl (by decide) _ oo.length (nL oo) rfl (own_alloc HO7.out _) _ 1 1 [.int .i64 j] rfl rfl (row_one _ _ _ _ rfl) (by simp [Value.oneCell']) (by omega) (HG7.out.alloc _) ?_; intro A9 c9 w9 ho9 hr9 hg9 hgb9 hor9; have HG9 := Lib.hid hg9; have HO9 := Lib.hid ho9; clear ho9 hr9 hg9 hgb9 hor9))
        exact ⟨⟨j + 1, A9, c9, by omega, by rw [HT.out, List.length_append]; rfl, by go_num, HG9.out, by rw [HT.out, List.length_append, ← nL_snoc]; exact HO9.out⟩, by simp only [intOf]; omega⟩
    · obtain rfl : j = n := by omega
      have HF : Hid (OrdF w (allS nd j dn j) (.returned (.slice A8 (allS nd j dn j).length c8)) wr) := Lib.hid ⟨A8, c8, rfl, HG0.out.trans HG.out, (TRow.own HO.out).low HLe.out⟩
      generalize allS nd j dn j = oo at *
      go_wp2
      all_goals first | exact HF.out | (go_ret; exact HF.out)
end Go.Proofs.Ytfdjnhnchibejaa

/- Layer 33: the document's own order. Condition: no more than a thousand pipes. -/
namespace Go.Proofs.Ytfdjnhnchibejaa
open Go.RowKit
attribute [local go_sem] more_cell more_frozen more_more more_setCell more_of_drew more_of_drewN lt_more le_more past_cell past_cell2 past_frozen past_frozen2 past_setCell past_setCell2 mid_cell mid_frozen mid_setCell
attribute [local go_sem ↓] Go.wp_at_zero Go.wp_at_succ

theorem allS_step {nd : List (List Int)} {n : Nat} {L : List Bool} (hn : nd.length = n) (hl : L.length = n) : (allS nd n L n).head? = stepR nd L := by
  subst hn
  unfold allS stepR
  rw [List.head?_filter]
  have : ∀ (l : List Nat), (∀ t ∈ l, t < nd.length) → l.find? (fun (t : Nat) => readyI nd nd.length L (t : Int)) = l.find? (rdyN nd L) := by
    intro l
    induction l with
    | nil => intro _; rfl
    | cons t r ih =>
      intro h
      have ht := h t (by simp)
      have e : readyI nd nd.length L (t : Int) = rdyN nd L t := by
        unfold readyI rdyN
        rw [decide_eq_true (show (0 : Int) ≤ (t : Int) by omega), decide_eq_true (show (t : Int) < (nd.length : Int) by omega), hl, thI_nat ht, Int.toNat_natCast]
        rw [Bool.true_and, Bool.true_and]
        congr 1
        congr 1
        funext x
        unfold needI thI
        rw [hl]
        by_cases hx : x < (nd.length : Int)
        · rw [decide_eq_true hx, Bool.true_and]
        · rw [decide_eq_false hx, Bool.false_and, Bool.and_false, Bool.false_and]
      rw [List.find?_cons, List.find?_cons, e, ih fun y hy => h y (by simp [hy])]
  exact this _ fun t ht => List.mem_range.1 ht
structure RoS (w : World) (lb : Nat) (nd : List (List Int)) (k : Nat) (A : Option Addr) (c : Nat) (wr : World) : Prop where
  grew : Grew w wr
  blk : Blok wr lb 4 (bL (ordS nd k).2).toArray
  own : wr.ownsRow (lb + 1) 3 1 (.slice A k c) k (nL (ordS nd k).1)
  len : (ordS nd k).1.length = k
theorem RoS.on {w wr w' : World} {lb k c : Nat} {nd : List (List Int)} {A : Option Addr} (s : RoS w lb nd k A c wr) (g : Grew wr w') : RoS w lb nd k A c w' :=
  ⟨s.grew.trans g, s.blk.grew g, own_grewU s.own g, s.len⟩
def RoAt (w : World) (lb : Nat) (nd : List (List Int)) (n : Nat) (x : Value) (wr : World) : Prop := ∃ (k : Nat) (A : Option Addr) (c : Nat), k ≤ n ∧ x = .slice A k c ∧ RoS w lb nd k A c wr
set_option maxHeartbeats 4000000 in
set_option maxRecDepth 100000 in
theorem rorder33_any (o : Oth) (nd : List (List Int)) (n : Nat) (hn : nd.length = n) (hn1 : n ≤ 1000) (hel : ∀ e ∈ nd, e.length ≤ 30) (A : Option Addr) (k : Nat) (w : World) (ra : PipsR w A nd) :
    Calls Try.prog 96 #[plV o A n k] w (OrdF w (ordS nd n).1) := by
  have HAl := Lib.hid (fun (dn : List Bool) (hd : dn.length = n) B c W (hW : Grew w W) (rb : Row W B (bL dn)) => show Calls Try.prog 100 #[plV o A n k, .slice B n c] W (OrdF W (allS nd n dn n)) by
    have h := rall33_any o nd n hn hn1 hel dn B c A k W (ra.grew hW) rb
    rw [hd] at h
    exact h)
  have HLe : Hid (∀ k, (ordS nd k).1.length ≤ n) := Lib.hid fun k => by rw [← hn]; exact ordS_le nd k
  have HDl : Hid (∀ k, (ordS nd k).2.length = n) := Lib.hid fun k => by rw [← hn]; exact ordS_dlen nd k
  have HEnd : Hid (∀ k, (ordS nd k).1.length = k → stepR nd (ordS nd k).2 = none → ordS nd n = ordS nd k) := Lib.hid fun k h1 h2 => by rw [← hn]; exact ordS_end h1 h2
  have HSt : Hid (∀ d t, stepR nd d = some t → t < n) := Lib.hid fun d t h => by rw [← hn]; exact (stepR_inv h).1
  have HStep : Hid (∀ k, (allS nd n (ordS nd k).2 n).head? = stepR nd (ordS nd k).2) := Lib.hid fun k => allS_step hn (by rw [ordS_dlen, hn])
  have HO0 : Hid (ordS nd 0 = ([], List.replicate n false)) := Lib.hid (by rw [← hn]; rfl)
  obtain ⟨j0, gi, gz0, gz1, gz2⟩ := info_parts infoB21
  have HJ := Lib.hid gi
  have HJ0 := Lib.hid gz0
  have HJ1 := Lib.hid gz1
  have HJ2 := Lib.hid gz2
  clear hel ra hn gi gz0 gz1 gz2
  unfold plV at *
  have HB0 : Hid (Blok (w.alloc (.cells (plC o A n k) 117)) w.heap.size 117 (plC o A n k)) := Lib.hid (Blok.new _ _ _ _ rfl)
  have HG0 : Hid (Grew w (w.alloc (.cells (plC o A n k) 117))) := Lib.hid ((Grew.refl w).alloc _)
  go_enter Try.func96, Try.ntmps96
  go_upto_region 1 with fail
  obtain ⟨w1, hw1⟩ : ∃ w1, w1 = w.alloc (.cells (plC o A n k) 117) := ⟨_, rfl⟩
  rw [← hw1] at HB0 HG0 ⊢
  clear hw1
  have hw1l := HG0.out.size
  generalize hgw : w.heap.size = g at HB0 ⊢
  obtain ⟨b0, d0, d1, b1, d3, d4, d5⟩ := boxP HB0.out
  go_upto_region 2 with (at_make; refine wpList_make_row _ rfl _ _ 96 rfl 4 j0 (.bool false) Try.underlying96 HJ.out HJ0.out HJ1.out rfl _ _ n rfl rfl (by rw [HJ2.out]; omega) (by omega) ?_)
  clear b0 d0 d1 b1 d3 d4 d5
  have H0 : Hid (RoS w1 w1.heap.size nd 0 none 0 (w1.alloc (.cells (madeCells #[.bool false] n) 4))) := Lib.hid ⟨(Grew.refl w1).alloc _, by
    rw [HO0.out]
    have e : (bL (List.replicate n false)).toArray = madeCells #[.bool false] n := by
      apply Array.ext'
      rw [toList_madeCells_one]
      simp [bL]
    rw [e]
    exact Blok.new w1 4 (madeCells #[.bool false] n) _ rfl, by rw [HO0.out]; exact own_none _ _ _ _, by rw [HO0.out]; rfl⟩
  generalize w1.alloc (.cells (madeCells #[.bool false] n) 4) = w2 at *
  obtain ⟨lb, hlb⟩ : ∃ lb, w1.heap.size = lb := ⟨_, rfl⟩
  rw [hlb] at H0 ⊢
  have HLb := Lib.hid hlb
  clear hlb
  go_wp2
  go_loopw [4] (fun x wr => RoAt w1 lb nd n x wr) (fun x _ => n - lenV x)
  case atStart => exact ⟨0, none, 0, Nat.zero_le _, rfl, H0.out⟩
  case round =>
    obtain ⟨q, A2, c2, hq, rfl, hs⟩ := hrel
    have HS := Lib.hid hs
    clear hs H0
    obtain ⟨L, hL⟩ : ∃ L, (ordS nd q).2 = L := ⟨_, rfl⟩
    have HL := Lib.hid hL
    have hdl := HDl.out q
    have hstp := HStep.out q
    rw [hL] at hdl hstp
    have HBk : Hid (Blok wr lb 4 (bL L).toArray) := Lib.hid (by rw [← hL]; exact HS.out.blk)
    clear hL
    have HA1 := Lib.hid (HAl.out L hdl (some ⟨lb, 0, none⟩) n wr (HG0.out.trans HS.out.grew) (row_blok HBk.out))
    have HA2 := Lib.hid (fun W (hW : Grew wr W) => HAl.out L hdl (some ⟨lb, 0, none⟩) n W ((HG0.out.trans HS.out.grew).trans hW) (row_blok (HBk.out.grew hW)))
    unfold plC at HA1 HA2
    obtain ⟨b0, d0, d1, b1, d3, d4, d5⟩ := boxP (HB0.out.grew HS.out.grew)
    rcases hal : allS nd n L n with _ | ⟨t, rest⟩
    · rw [hal] at HA1 hstp
      have hst : stepR nd (ordS nd q).2 = none := by rw [HL.out, ← hstp]; rfl
      have HF : Hid (∀ W, Grew wr W → OrdF w (ordS nd n).1 (.returned (.slice A2 q c2)) W) := Lib.hid (fun W hW => by
        have e2 := HEnd.out q HS.out.len hst
        have s := HS.out.on hW
        exact ⟨A2, c2, by rw [e2, s.len], HG0.out.trans s.grew, by rw [e2]; exact (TRow.own s.own).low (by have := HLb.out; omega)⟩)
      clear hal hstp hst HA2
      generalize (ordS nd n).1 = fin at *
      unfold OrdF at HA1
      go_wp2_with (go_at_call 100; (with_reducible refine HA1.out.mono ?_); rintro e w6 ⟨A6, c6, rfl, hg6, _⟩; have HF6 := Lib.hid (HF.out _ hg6); clear hg6)
      all_goals first | exact HF6.out | (go_ret; exact HF6.out)
    · rw [hal] at HA1 HA2 hstp
      have hst : stepR nd (ordS nd q).2 = some t := by rw [HL.out, ← hstp]; rfl
      have htn := HSt.out _ t hst
      have hqj : q + 1 ≤ n := by
        have h4 := HLe.out (q + 1)
        rw [ordS_some hst, List.length_append, HS.out.len] at h4
        simpa using h4
      have HNx : Hid (ordS nd (q + 1) = ((ordS nd q).1 ++ [t], L.set t true)) := Lib.hid (by rw [ordS_some hst, HL.out])
      clear hal hstp hst
      unfold OrdF at HA1 HA2
      go_upto_region 5 with (first
        | (go_at_call 100; (with_reducible refine HA1.out.mono ?_); rintro e w6 ⟨A6, c6, rfl, hg6, _⟩; have HG6 := Lib.hid hg6; clear hg6 b0 d0 d1 b1 d3 d4 d5 HA1; obtain ⟨b0, d0, d1, b1, d3, d4, d5⟩ := boxP (HB0.out.grew (HS.out.grew.trans HG6.out)))
        | (go_at_call 100; (with_reducible refine (HA2.out _ HG6.out).mono ?_); rintro e w7 ⟨A7, c7, rfl, hg7, hr7⟩; have HG7 := Lib.hid (HG6.out.trans hg7); obtain ⟨b7, o7, rfl, hb7, hc7⟩ := row_nat hr7.plain (show 0 < (t :: rest).length by simp); simp only [List.getElem_cons_zero, Nat.add_zero] at hc7; clear hg7 hr7 HA2))
      clear b0 d0 d1 b1 d3 d4 d5
      have hbl := HBk.out.grew HG7.out
      have HS7 := Lib.hid (HS.out.on HG7.out)
      have t0 := hbl.cell t
      have t1 := hbl.thaw t
      have tl := hbl.lt
      have t2 : ((bL L).toArray)[t]? = some (.bool (L[t]'(by omega))) := by simp [bL, hdl, htn]
      rw [t2] at t0
      have HB8 : Hid (Blok (w7.setCell ⟨lb, t, none⟩ (.bool true)) lb 4 (bL (L.set t true)).toArray) := Lib.hid (by
        rw [← bL_set]
        exact hbl.set t _)
      have HG8 : Hid (Grew w1 (w7.setCell ⟨lb, t, none⟩ (.bool true))) := Lib.hid (HS7.out.grew.setCell (a := ⟨lb, t, none⟩) (by rw [HLb.out]; exact Nat.le_refl _) _)
      have HO8 : Hid ((w7.setCell ⟨lb, t, none⟩ (.bool true)).ownsRow (lb + 1) 3 1 (.slice A2 q c2) q (nL (ordS nd q).1)) := Lib.hid (own_aside2 HS7.out.own (fun q hq => by have := own_base HS7.out.own q hq; show q ≠ lb; omega) _)
      clear hbl t2
      go_upto_region 6 with fail
      generalize w7.setCell ⟨lb, t, none⟩ (.bool true) = w8 at *
      clear t0 t1 tl hb7 hc7
      have tl := HB8.out.lt
      go_wp2_with (at_builtin; refine wpList_appB rfl _ _ 38 3 1 rfl (lb + 1) (.int .i64 0) 8 Try.underlying38 infoI rfl (by decide) (by decide) _ q (nL (ordS nd q).1) rfl (own_alloc HO8.out _) _ 1 1 [.int .i64 t] rfl rfl (row_one _ _ _ _ rfl) (by simp [Value.oneCell']) (by omega) (by rw [World.size_alloc]; omega) ?_; intro A9 c9 w9 ho9 hg9; have HO9 := Lib.hid ho9; have HG9 := Lib.hid ((HG8.out.alloc (.cells #[.int .i64 t] 3)).grown hg9 (fun i hi => by have := own_base HO8.out i hi; have := HLb.out; omega)); have HB9 := Lib.hid ((HB8.out.alloc (.cells #[.int .i64 t] 3)).other (own_alloc HO8.out (.cells #[.int .i64 t] 3)) (by decide) hg9); clear ho9 hg9)
      have HF : Hid (RoS w1 lb nd (q + 1) A9 c9 w9) := Lib.hid ⟨HG9.out, by rw [HNx.out]; exact HB9.out, by rw [HNx.out, ← nL_snoc]; exact HO9.out, by rw [HNx.out, List.length_append, HS.out.len]; rfl⟩
      exact ⟨⟨q + 1, A9, c9, hqj, rfl, HF.out⟩, by simp only [lenV]; omega⟩
end Go.Proofs.Ytfdjnhnchibejaa

namespace Go.Proofs.Ytfdjnhnchibejaa
open Go.RowKit
attribute [local go_sem] more_cell more_frozen more_more more_setCell more_of_drew more_of_drewN lt_more le_more past_cell past_cell2 past_frozen past_frozen2 past_setCell past_setCell2 mid_cell mid_frozen mid_setCell
attribute [local go_sem ↓] Go.wp_at_zero Go.wp_at_succ

structure LvR (w : World) (lb : Nat) (lv : List Int) (wr : World) : Prop where
  grew : Grew w wr
  blk : Blok wr lb 3 (iV lv).toArray
theorem LvR.on {w wr w' : World} {lb : Nat} {lv : List Int} (s : LvR w lb lv wr) (g : Grew wr w') : LvR w lb lv w' := ⟨s.grew.trans g, s.blk.grew g⟩
theorem LvR.put {w wr w' : World} {lb : Nat} {lv : List Int} (s : LvR w lb lv wr) (hw : w.heap.size ≤ lb) (i : Nat) (v : Int) (e : w' = wr.setCell ⟨lb, i, none⟩ (.int .i64 v)) : LvR w lb (lv.set i v) w' := by
  subst e
  refine ⟨s.grew.setCell (a := ⟨lb, i, none⟩) hw _, ?_⟩
  rw [← iV_put]
  exact s.blk.set i _
def LrAt (w : World) (lb : Nat) (nd : List (List Int)) (l : List Nat) (x : Value) (wr : World) : Prop := ∃ j : Nat, j ≤ l.length ∧ x = .int .i64 j ∧ LvR w lb (lvS nd (l.take j)) wr
def LrIn (w : World) (lb : Nat) (lv e : List Int) (x9 x10 : Value) (wr : World) : Prop := ∃ q : Nat, q ≤ e.length ∧ x9 = .int .i64 (maxL lv (e.take q)) ∧ x10 = .int .i64 q ∧ LvR w lb lv wr
set_option maxHeartbeats 4000000 in
set_option maxRecDepth 100000 in
theorem rlevel33_any (o : Oth) (nd : List (List Int)) (n : Nat) (hn : nd.length = n) (hn1 : n ≤ 1000) (hel : ∀ e ∈ nd, e.length ≤ 30) (A : Option Addr) (k : Nat) (t : Int) (w : World) (ra : PipsR w A nd) :
    Gives Try.prog 104 #[plV o A n k, .int .i64 t] w (.int .i64 (levI nd (ordS nd n).1 t)) := by
  have RA := Lib.hid ra
  have HOr := Lib.hid (fun W (hW : Grew w W) => rorder33_any o nd n hn hn1 hel A k W (ra.grew hW))
  have HEl := Lib.hid hel
  have HN := Lib.hid hn
  have HI := Lib.hid (ordInv nd n)
  have hle : (ordS nd n).1.length ≤ n := by rw [← hn]; exact ordS_le nd nd.length
  unfold OrdF at HOr
  generalize (ordS nd n).1 = l at *
  generalize (ordS nd n).2 = dn at *
  obtain ⟨i0, hi, hz0, hz1, hz2⟩ := info_parts infoI
  have HJ := Lib.hid hi
  have HJ0 := Lib.hid hz0
  have HJ1 := Lib.hid hz1
  have HJ2 := Lib.hid hz2
  obtain ⟨fin, hfin⟩ : ∃ fin, levI nd l t = fin := ⟨_, rfl⟩
  rw [hfin]
  have HFin := Lib.hid hfin
  clear hel ra hi hz0 hz1 hz2 hfin hn
  unfold Gives
  unfold plV at *
  have HB0 : Hid (Blok (w.alloc (.cells (plC o A n k) 117)) w.heap.size 117 (plC o A n k)) := Lib.hid (Blok.new _ _ _ _ rfl)
  have HG0 : Hid (Grew w (w.alloc (.cells (plC o A n k) 117))) := Lib.hid ((Grew.refl w).alloc _)
  go_enter Try.func104, Try.ntmps104
  go_upto_region 1 with fail
  obtain ⟨w1, hw1⟩ : ∃ w1, w1 = w.alloc (.cells (plC o A n k) 117) := ⟨_, rfl⟩
  rw [← hw1] at HB0 HG0 ⊢
  clear hw1
  generalize w.heap.size = g at *
  obtain ⟨b0, d0, d1, b1, d3, d4, d5⟩ := boxP HB0.out
  have HOr1 := Lib.hid (HOr.out w1 HG0.out)
  unfold plC at HOr1
  go_upto_region 2 with (go_at_call 96; (with_reducible refine HOr1.out.mono ?_); rintro e w6 ⟨A6, k6, rfl, hg6, hr6⟩; have HG6 := Lib.hid (HG0.out.trans hg6); have HB6 := Lib.hid (HB0.out.grew hg6); have HR6 := Lib.hid hr6.plain; clear hg6 hr6)
  clear b0 d0 d1 b1 d3 d4 d5 HOr HOr1
  obtain ⟨b0, d0, d1, b1, d3, d4, d5⟩ := boxP HB6.out
  go_upto_region 3 with (at_make; refine wpList_make_row _ rfl _ _ 38 rfl 3 i0 (.int .i64 0) Try.underlying38 HJ.out HJ0.out HJ1.out rfl _ _ n rfl rfl (by rw [HJ2.out]; omega) (by omega) ?_)
  clear b0 d0 d1 b1 d3 d4 d5
  have HS0 : Hid (LvR w6 w6.heap.size (lvS nd (l.take 0)) (w6.alloc (.cells (madeCells #[.int .i64 0] n) 3))) := Lib.hid ⟨(Grew.refl w6).alloc _, by
    have e : (iV (lvS nd (l.take 0))).toArray = madeCells #[.int .i64 0] n := by
      apply Array.ext'
      rw [toList_madeCells_one]
      show iV (List.replicate nd.length 0) = _
      rw [HN.out]
      simp [iV]
    rw [e]
    exact Blok.new w6 3 (madeCells #[.int .i64 0] n) _ rfl⟩
  generalize w6.alloc (.cells (madeCells #[.int .i64 0] n) 3) = w7 at *
  obtain ⟨lb, hlb⟩ : ∃ lb, w6.heap.size = lb := ⟨_, rfl⟩
  rw [hlb] at HS0 ⊢
  have HLb := Lib.hid hlb
  clear hlb
  go_wp2
  go_loopw [7] (fun x wr => LrAt w6 lb nd l x wr) (fun x _ => l.length - (intOf x).toNat)
  case atStart => exact ⟨0, Nat.zero_le _, rfl, HS0.out⟩
  case round =>
    obtain ⟨j, hj, rfl, hs⟩ := hrel
    have HS := Lib.hid hs
    clear hs HS0
    by_cases h1 : j < l.length
    · obtain ⟨b, of, rfl, hb, hc⟩ := row_nat HR6.out h1
      obtain ⟨hin, _⟩ := (HI.out.mem l[j]).1 (List.getElem_mem h1)
      have hneeds := HI.out.needs j h1
      have hlvl := lvS_len nd (l.take j)
      have HIn := Lib.hid (lvS_in nd (l.take j))
      have htl : (l.take j).length = j := by rw [List.length_take]; omega
      have HNx : Hid (lvS nd (l.take (j + 1)) = (lvS nd (l.take j)).set l[j] (maxL (lvS nd (l.take j)) (edgeAt nd l[j]) + 1)) := Lib.hid (by rw [List.take_succ_eq_append_getElem h1, lvS_snoc])
      have HNd : Hid (∀ x ∈ edgeAt nd l[j], ∃ z : Nat, x = (z : Int) ∧ z < n) := Lib.hid fun x hx => by
        obtain ⟨z, z1, z2, z3⟩ := hneeds x hx
        exact ⟨z, z1, by rw [← HN.out]; exact z2⟩
      rw [HN.out] at hin hlvl
      rw [htl] at HIn
      have hjn : (j : Int) ≤ 1000 := by omega
      clear hneeds htl
      generalize hlv : lvS nd (l.take j) = lv at *
      clear hlv
      generalize hli : l[j] = i at *
      have hih : i < nd.length := by rw [HN.out]; exact hin
      have hee : edgeAt nd i = nd[i] := edgeAt_eq hih
      rw [hee] at HNx HNd
      obtain ⟨pb, po, D, d, rfl, hpb, hpc, hpr⟩ := pips_at RA.out hih
      have hl30 := HEl.out _ (List.getElem_mem hih)
      have HP := Lib.hid (fun W (hW : Grew w W) => And.intro (Nat.lt_of_lt_of_le hpb hW.size) (And.intro ((hW.cell (a := ⟨pb, po + i * 3 + 2, none⟩) hpb).trans hpc) (hpr.grew hW)))
      clear hpb hpc hpr hee hli
      generalize nd[i] = e at *
      clear hih
      have HC := Lib.hid (fun W (hW : Grew w6 W) => And.intro (Nat.lt_of_lt_of_le hb hW.size) ((hW.cell (a := ⟨b, of + j, none⟩) hb).trans hc))
      have HBw := Lib.hid (HB6.out.grew HS.out.grew)
      have HGr := Lib.hid HS.out.grew
      clear hb hc
      go_upto_region 6 with fail
      refine wp_region_grew (by kernel_rfl) ?_
      refine held_take 0 (v := ?_) rfl (by kernel_rfl) (by kernel_rfl) (by kernel_rfl) (fun _ _ _ h => h) (by rfl) ?_ (Grew.refl _).drew ?_
      rotate_left
      · (intro W hW; obtain ⟨b0, d0, d1, b1, d3, d4, d5⟩ := boxP (HBw.out.grew hW); go_simp; with_reducible rfl)
      refine held_take 1 (v := ?_) rfl (by kernel_rfl) (by kernel_rfl) (by kernel_rfl) (fun _ _ _ h => h) (by rfl) ?_ (Grew.refl _).drew ?_
      rotate_left
      · (intro W hW; obtain ⟨b0, d0, d1, b1, d3, d4, d5⟩ := boxP (HBw.out.grew hW); go_simp; with_reducible rfl)
      refine held_norm (a' := ?_) ?_ ?_
      rotate_left
      · (go_simp; with_reducible rfl)
      refine held_take 2 (v := ?_) rfl (by kernel_rfl) (by kernel_rfl) (by kernel_rfl) (fun _ _ _ h => h) (by rfl) ?_ (Grew.refl _).drew ?_
      rotate_left
      · (intro W hW; obtain ⟨c0, c1⟩ := HC.out W (HGr.out.trans hW); go_simp; with_reducible rfl)
      refine held_take 3 (v := ?_) rfl (by kernel_rfl) (by kernel_rfl) (by kernel_rfl) (fun _ _ _ h => h) (by rfl) ?_ (Grew.refl _).drew ?_
      rotate_left
      · (intro W hW; obtain ⟨c0, c1⟩ := HC.out W (HGr.out.trans hW); go_simp; with_reducible rfl)
      refine held_take 4 (v := ?_) rfl (by kernel_rfl) (by kernel_rfl) (by kernel_rfl) (fun _ _ _ h => h) (by rfl) ?_ (Grew.refl _).drew ?_
      rotate_left
      · (intro W hW; obtain ⟨c0, c1⟩ := HC.out W (HGr.out.trans hW); go_simp; with_reducible rfl)
      refine held_take 5 (v := ?_) rfl (by kernel_rfl) (by kernel_rfl) (by kernel_rfl) (fun _ _ _ h => h) (by rfl) ?_ (Grew.refl _).drew ?_
      rotate_left
      · (intro W hW; obtain ⟨c0, c1⟩ := HC.out W (HGr.out.trans hW); go_simp; with_reducible rfl)
      refine held_norm (a' := ?_) ?_ ?_
      rotate_left
      · (go_simp; with_reducible rfl)
      refine held_take 6 (v := ?_) rfl (by kernel_rfl) (by kernel_rfl) (by kernel_rfl) (fun _ _ _ h => h) (by rfl) ?_ (Grew.refl _).drew ?_
      rotate_left
      · (intro W hW; obtain ⟨p0, p1, _⟩ := HP.out _ ((HG6.out.trans HGr.out).trans hW); go_simp; with_reducible rfl)
      refine held_take 7 (v := ?_) rfl (by kernel_rfl) (by kernel_rfl) (by kernel_rfl) (fun _ _ _ h => h) (by rfl) ?_ (Grew.refl _).drew ?_
      rotate_left
      · (intro W hW; obtain ⟨p0, p1, _⟩ := HP.out _ ((HG6.out.trans HGr.out).trans hW); go_simp; with_reducible rfl)
      refine held_take 8 (v := ?_) rfl (by kernel_rfl) (by kernel_rfl) (by kernel_rfl) (fun _ _ _ h => h) (by rfl) ?_ (Grew.refl _).drew ?_
      rotate_left
      · (intro W hW; obtain ⟨p0, p1, _⟩ := HP.out _ ((HG6.out.trans HGr.out).trans hW); go_simp; with_reducible rfl)
      refine held_take 9 (v := ?_) rfl (by kernel_rfl) (by kernel_rfl) (by kernel_rfl) (fun _ _ _ h => h) (by rfl) ?_ (Grew.refl _).drew ?_
      rotate_left
      · (intro W hW; obtain ⟨p0, p1, _⟩ := HP.out _ ((HG6.out.trans HGr.out).trans hW); go_simp; with_reducible rfl)
      refine held_norm (a' := ?_) ?_ ?_
      rotate_left
      · (go_simp; with_reducible rfl)
      refine held_done (by kernel_rfl) ?_
      have HSd := Lib.hid (HS.out.on (Grew.refl wr).drew)
      generalize wr.drew = wd at *
      clear HS HBw HGr
      go_wp2
      go_loopw [9, 10] (fun x9 x10 wx => LrIn w6 lb lv e x9 x10 wx) (fun _ x _ => e.length - (intOf x).toNat)
      case atStart => exact ⟨0, Nat.zero_le _, rfl, rfl, HSd.out⟩
      case round =>
        obtain ⟨q, hq, rfl, rfl, hs⟩ := hrel
        have HS := Lib.hid hs
        clear hs HSd
        have hmx := maxL_in (m := (j : Int)) (by omega) HIn.out (e.take q)
        by_cases h2 : q < e.length
        · obtain ⟨b2, o2, rfl, hb2, hc2⟩ := rowI_at (HP.out _ (HG6.out.trans HS.out.grew)).2.2 h2
          obtain ⟨zz, hz, hzn⟩ := HNd.out _ (List.getElem_mem h2)
          have HMx : Hid (maxL lv (e.take (q + 1)) = max (maxL lv (e.take q)) (lv.getD zz 0)) := Lib.hid (by
            rw [List.take_succ_eq_append_getElem h2, maxL_snoc, hz, Int.toNat_natCast])
          rw [hz] at hc2
          have t1 := HS.out.blk.cell zz
          have tl := HS.out.blk.lt
          rw [show ((iV lv).toArray)[zz]? = some (.int .i64 (lv.getD zz 0)) by
            rw [iV_get, List.getD_eq_getElem?_getD, List.getElem?_eq_getElem (by omega)]
            rfl] at t1
          generalize maxL lv (List.take q e) = ma at *
          generalize lv.getD zz 0 = mz at *
          clear hz
          by_cases hlt : ma < mz
          · have HM2 : Hid (maxL lv (e.take (q + 1)) = mz) := Lib.hid (by rw [HMx.out]; omega)
            have ed : decide (ma < mz) = true := decide_eq_true hlt
            clear HMx
            go_wp2
            exact ⟨⟨q + 1, by omega, by rw [HM2.out], by go_num, HS.out⟩, by simp only [intOf]; omega⟩
          · have HM2 : Hid (maxL lv (e.take (q + 1)) = ma) := Lib.hid (by rw [HMx.out]; omega)
            have ed : decide (ma < mz) = false := decide_eq_false hlt
            have hle2 : mz ≤ ma := by omega
            clear HMx hlt
            go_wp2
            exact ⟨⟨q + 1, by omega, by rw [HM2.out], by go_num, HS.out⟩, by simp only [intOf]; omega⟩
        · obtain rfl : q = e.length := by omega
          rw [List.take_length] at hmx ⊢
          have tf := HS.out.blk.thaw i
          have tl := HS.out.blk.lt
          have t0 := HS.out.blk.cell i
          rw [show ((iV lv).toArray)[i]? = some (.int .i64 (lv.getD i 0)) by
            rw [iV_get, List.getD_eq_getElem?_getD, List.getElem?_eq_getElem (by omega)]
            rfl] at t0
          obtain ⟨c0, c1⟩ := HC.out _ HS.out.grew
          have HF := Lib.hid (fun W e1 => HS.out.put (w' := W) (by rw [HLb.out]; exact Nat.le_refl _) i (maxL lv e + 1) e1)
          rw [← HNx.out] at HF
          generalize maxL lv e = ma at *
          go_wp2
          exact ⟨⟨j + 1, by omega, by go_num, HF.out _ rfl⟩, by simp only [intOf]; omega⟩
    · obtain rfl : j = l.length := by omega
      rw [List.take_length] at HS
      have tl := HS.out.blk.lt
      have hlvl := lvS_len nd l
      rw [HN.out] at hlvl
      by_cases h0 : t < 0
      · have e0 : decide (t < (0 : Int)) = true := decide_eq_true h0
        obtain rfl : fin = 0 := by rw [← HFin.out]; unfold levI; rw [if_neg (by omega)]
        clear HFin
        generalize lvS nd l = lvv at *
        go_wp2
        go_ret
        exact ⟨rfl, HG6.out.trans HS.out.grew⟩
      · obtain ⟨t, rfl⟩ : ∃ z : Nat, t = (z : Int) := ⟨t.toNat, by omega⟩
        have e0 : decide ((t : Int) < (0 : Int)) = false := decide_eq_false h0
        by_cases htn : t < n
        · have e1 : decide ((n : Int) ≤ (t : Int)) = false := decide_eq_false (by omega)
          have e1n : decide (n ≤ t) = false := decide_eq_false (by omega)
          have t0 := HS.out.blk.cell t
          rw [iV_get, List.getElem?_eq_getElem (by omega), Option.map_some] at t0
          have e2 : (lvS nd l)[t]'(by omega) = fin := by
            rw [← HFin.out]
            unfold levI
            rw [if_pos (by rw [HN.out]; omega), Int.toNat_natCast, List.getD_eq_getElem?_getD, List.getElem?_eq_getElem (by omega)]
            rfl
          rw [e2] at t0
          clear e2 hlvl HFin
          generalize lvS nd l = lvv at *
          go_wp2
          go_ret
          exact ⟨rfl, HG6.out.trans HS.out.grew⟩
        · have e1 : decide ((n : Int) ≤ (t : Int)) = true := decide_eq_true (by omega)
          have h1' : (n : Int) ≤ (t : Int) := by omega
          obtain rfl : fin = 0 := by rw [← HFin.out]; unfold levI; rw [if_neg (by rw [HN.out]; omega)]
          clear HFin htn
          generalize lvS nd l = lvv at *
          go_wp2
          go_ret
          exact ⟨rfl, HG6.out.trans HS.out.grew⟩
end Go.Proofs.Ytfdjnhnchibejaa
