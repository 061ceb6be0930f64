/- Layer 22: an ear's parent, by the document. Condition: no more than a thousand edges of no more than thirty numbers each. -/
import Derived.Test.YtfdjnhnchibejaaEar1
namespace Go.Proofs.Ytfdjnhnchibejaa
open Go.RowKit
attribute [local go_sem] more_cell more_frozen more_more more_setCell more_of_drew more_of_drewN lt_more le_more past_cell past_cell2 past_frozen past_frozen2 past_setCell past_setCell2 mid_cell mid_frozen mid_setCell
attribute [local go_sem ↓] Go.wp_at_zero Go.wp_at_succ

def parV (o : Option Nat) : Int := match o with | some p => (p : Int) | none => -1
def earOkN (h : List (List Int)) (l : List Bool) (i p m : Nat) : Bool := (List.range m).all fun k => !(k != i && thB l k) || withinI (sharedI (edgeAt h i) (edgeAt h k)) (edgeAt h p)
theorem earOkN_all (h : List (List Int)) (l : List Bool) (i p : Nat) : earOkN h l i p h.length = earOk h l i p := rfl
theorem earOkN_succ (h : List (List Int)) (l : List Bool) (i p m : Nat) : earOkN h l i p (m + 1) = (earOkN h l i p m && (!(m != i && thB l m) || withinI (sharedI (edgeAt h i) (edgeAt h m)) (edgeAt h p))) := by
  unfold earOkN
  rw [List.range_succ, List.all_append]
  simp
theorem earOkN_end {h : List (List Int)} {l : List Bool} {i p k : Nat} (ht : ∀ j, k ≤ j → thB l j = false) (d : Nat) : earOkN h l i p (k + d) = earOkN h l i p k := by
  induction d with
  | zero => rfl
  | succ d ih => rw [← Nat.add_assoc, earOkN_succ, ih, ht (k + d) (by omega)]; simp
def EpIn (w : World) (h : List (List Int)) (l : List Bool) (i p n : Nat) (x8 x9 : Value) (wr : World) : Prop := ∃ k : Nat, k ≤ n ∧ x8 = .bool (earOkN h l i p k) ∧ x9 = .int .i64 k ∧ Grew w wr
set_option maxHeartbeats 4000000 in
set_option maxRecDepth 100000 in
theorem rparent22_any (h : List (List Int)) (n : Nat) (hn : h.length = n) (hn1 : n ≤ 1000) (hel : ∀ e ∈ h, e.length ≤ 30) (l : List Bool) (A B : Option Addr) (k c : Nat) (i : Int) (w : World) (ra : GridI (PRow w) A h) (rb : Row w B (bL l)) :
    Gives Try.prog 154 #[.slice A n k, .slice B l.length c, .int .i64 i] w (.int .i64 (parV (earR h l i))) := by
  have RA := Lib.hid ra
  have RB := Lib.hid rb
  have HEl := Lib.hid hel
  have HN := Lib.hid hn
  unfold Gives
  by_cases ht : thI n l i = true
  rotate_left
  · have ht0 : thI n l i = false := by simpa using ht
    rw [earR_not (by rw [hn]; exact ht0)]
    have HT0 := Lib.hid ht0
    clear ra rb hel hn ht ht0
    by_cases h0 : 0 ≤ i
    · obtain ⟨j, rfl⟩ : ∃ j : Nat, i = (j : Int) := ⟨i.toNat, by omega⟩
      have e0 : decide ((j : Int) < (0 : Int)) = false := decide_eq_false (by omega)
      by_cases h1 : (j : Int) < n
      · have e1 : decide ((n : Int) ≤ (j : Int)) = false := decide_eq_false (by omega)
        by_cases h2 : (j : Int) < l.length
        · have e2 : decide ((l.length : Int) ≤ (j : Int)) = false := decide_eq_false (by omega)
          obtain ⟨b, o, rfl, hb, hc⟩ := boolrow_at RB.out (show j < l.length by omega)
          have hq : thB l j = false := by have := HT0.out; rwa [thI_nat (by omega)] at this
          rw [hq] at hc
          clear HT0 hq
          go_enter Try.func154, Try.ntmps154
          go_wp2
          go_ret
          exact ⟨rfl, by (show Grew _ _; repeat (first | exact Grew.refl _ | refine Grew.alloc ?_ _ | refine Grew.drew ?_ | refine Grew.more ?_ _))⟩
        · have e2 : decide ((l.length : Int) ≤ (j : Int)) = true := decide_eq_true (by omega)
          have h2' : (l.length : Int) ≤ j := by omega
          clear HT0 h2
          go_enter Try.func154, Try.ntmps154
          go_wp2
          go_ret
          exact ⟨rfl, by (show Grew _ _; repeat (first | exact Grew.refl _ | refine Grew.alloc ?_ _ | refine Grew.drew ?_ | refine Grew.more ?_ _))⟩
      · have e1 : decide ((n : Int) ≤ (j : Int)) = true := decide_eq_true (by omega)
        have h1' : (n : Int) ≤ j := by omega
        clear HT0 h1
        go_enter Try.func154, Try.ntmps154
        go_wp2
        go_ret
        exact ⟨rfl, by (show Grew _ _; repeat (first | exact Grew.refl _ | refine Grew.alloc ?_ _ | refine Grew.drew ?_ | refine Grew.more ?_ _))⟩
    · have e0 : decide (i < (0 : Int)) = true := decide_eq_true (by omega)
      have h0' : i < 0 := by omega
      clear HT0 h0
      go_enter Try.func154, Try.ntmps154
      go_wp2
      go_ret
      exact ⟨rfl, by (show Grew _ _; repeat (first | exact Grew.refl _ | refine Grew.alloc ?_ _ | refine Grew.drew ?_ | refine Grew.more ?_ _))⟩
  obtain ⟨i, rfl, hi, hti⟩ := thI_in ht
  have HSome : Hid (∀ m, m < n → earQ h l i m = true → (∀ j, j < m → earQ h l i j = false) → earR h l (i : Int) = some m) := Lib.hid fun m hm hq hb => by
    unfold earR
    rw [if_pos (by omega), Int.toNat_natCast]
    unfold earP
    rw [if_pos (by rw [hn, hti, decide_eq_true hi]; rfl), find_someN (by omega) hq hb]
  have HNone : Hid ((∀ j, j < n → earQ h l i j = false) → earR h l (i : Int) = none) := Lib.hid fun hb => by
    unfold earR
    rw [if_pos (by omega), Int.toNat_natCast]
    unfold earP
    split
    · rw [find_noneN (by rw [hn]; exact hb)]
    · rfl
  have hil := thB_lt hti
  obtain ⟨bb, bo, rfl, hbb, hcb⟩ := boolrow_at rb hil
  rw [hti] at hcb
  have HOkN : Hid (∀ p, earOkN h l i p n = earOk h l i p) := Lib.hid fun p => by rw [← hn]; rfl
  have HBool : Hid (∀ (j : Nat), j < l.length → ∀ W, Grew w W → W.cell? ⟨bb, bo + j, none⟩ = some (.bool (thB l j))) := Lib.hid fun j hj W hW => by
    obtain ⟨b1, o1, hA, h1, h2⟩ := boolrow_at rb hj
    injection hA with hA
    injection hA with e1 e2 _
    subst e1 e2
    exact (hW.cell (a := ⟨bb, bo + j, none⟩) h1).trans h2
  have hih : i < h.length := by omega
  obtain ⟨b, o, D, d, rfl, hb0, hc0, hr0⟩ := gridI_at ra hih
  have HGrid : Hid (∀ (j : Nat) (hj : j < h.length), ∃ D d, h[j].length ≤ 30 ∧ (∀ W, Grew w W → b < W.heap.size ∧ W.cell? ⟨b, o + j, none⟩ = some (.slice D h[j].length d) ∧ Row W D (iV h[j]))) := Lib.hid fun j hj => by
    obtain ⟨b1, o1, D, d, hA, h1, h2, h3⟩ := gridI_at ra hj
    injection hA with hA
    injection hA with e1 e2 _
    subst e1 e2
    exact ⟨D, d, hel _ (List.getElem_mem hj), fun W hW => ⟨Nat.lt_of_lt_of_le h1 hW.size, (hW.cell (a := ⟨b, o + j, none⟩) h1).trans h2, h3.grew hW⟩⟩
  have hel30 := hel _ (List.getElem_mem hih)
  have HI : Hid (∀ W, Grew w W → W.cell? ⟨b, o + i, none⟩ = some (.slice D h[i].length d) ∧ Row W D (iV h[i])) := Lib.hid fun W hW => ⟨(hW.cell (a := ⟨b, o + i, none⟩) hb0).trans hc0, hr0.grew hW⟩
  have hEi : edgeAt h i = h[i] := edgeAt_eq hih
  have HEi := Lib.hid hEi
  have HB0 := Lib.hid (fun W (hW : Grew w W) => Nat.lt_of_lt_of_le hbb hW.size)
  clear ra rb hel hn ht hti hc0 hr0 hEi hb0 RA RB HEl
  generalize hee : h[i] = ei at *
  clear hee hih
  generalize hmm : l.length = ml at *
  have HMl := Lib.hid hmm
  clear hmm
  generalize earR h l (i : Int) = fin at *
  have el0 : decide ((i : Int) < (0 : Int)) = false := decide_eq_false (by omega)
  have el1 : decide ((n : Int) ≤ (i : Int)) = false := decide_eq_false (by omega)
  have el2 : decide ((ml : Int) ≤ (i : Int)) = false := decide_eq_false (by omega)
  go_enter Try.func154, Try.ntmps154
  go_wp2
  have en1 : decide (n ≤ i) = false := decide_eq_false (by omega)
  have en2 : decide (ml ≤ i) = false := decide_eq_false (by omega)
  simp only [en1, en2, Bool.or_false]
  clear el0 el1 el2 hcb en1 en2
  go_loopw [7] (fun x wr => EaAt w (earQ h l i) n x wr) (fun x _ => n - (intOf x).toNat)
  case atStart => exact ⟨0, Nat.zero_le _, rfl, Grew.refl w, fun j hj => by omega⟩
  case round =>
    obtain ⟨p, hp, rfl, hg, hq⟩ := hrel
    have HG := Lib.hid hg
    have HQ := Lib.hid hq
    clear hg hq
    by_cases h1 : p < n
    · have hpn : decide ((p : Int) < (n : Int)) = true := decide_eq_true (by omega)
      by_cases h2 : p < ml
      · have hpm : decide ((p : Int) < (ml : Int)) = true := decide_eq_true (by omega)
        have hph : p < h.length := by rw [HN.out]; exact h1
        have HE : Hid (earQ h l i p = (p != i && thB l p && earOk h l i p)) := Lib.hid rfl
        have HNx : Hid (earQ h l i p = false → ∀ j, j < p + 1 → earQ h l i j = false) := Lib.hid fun e j hj => by
          by_cases ej : j = p
          · subst ej; exact e
          · exact HQ.out j (by omega)
        have HFn : Hid (earQ h l i p = true → fin = some p) := Lib.hid fun e => HSome.out p h1 e HQ.out
        by_cases hpi : p = i
        · have em : ((p : Int) == (i : Int)) = true := by simp [hpi]
          have HN1 := Lib.hid (HNx.out (by rw [HE.out, hpi]; simp))
          clear hpi hph HNx HFn HE HQ
          go_wp2
          exact ⟨⟨p + 1, by omega, by go_num, HG.out, HN1.out⟩, by simp only [intOf]; omega⟩
        · have em : ((p : Int) == (i : Int)) = false := by simp; omega
          have em2 : (p != i) = true := by simpa using hpi
          have hcp := HBool.out p h2 wr HG.out
          have hbp := HB0.out wr HG.out
          rcases htm : thB l p with _ | _
          · rw [htm] at hcp
            have HN1 := Lib.hid (HNx.out (by rw [HE.out, htm]; simp))
            clear hpi hph HNx HFn HE HQ htm em2
            go_wp2
            exact ⟨⟨p + 1, by omega, by go_num, HG.out, HN1.out⟩, by simp only [intOf]; omega⟩
          · rw [htm] at hcp
            rw [em2, htm] at HE
            obtain ⟨P, pd, hp30, hPr⟩ := HGrid.out p hph
            have HPr := Lib.hid hPr
            have hEp : edgeAt h p = h[p] := edgeAt_eq hph
            have HEp := Lib.hid hEp
            clear hpi htm em2 hPr HQ hEp
            generalize hpp : h[p] = ep at *
            clear hpp hph
            go_wp2
            clear hcp hbp
            go_loopw [8, 9] (fun x8 x9 wx => EpIn wr h l i p n x8 x9 wx) (fun _ x _ => n - (intOf x).toNat)
            case atStart => exact ⟨0, Nat.zero_le _, rfl, rfl, Grew.refl wr⟩
            case round =>
              obtain ⟨q, hqn, rfl, rfl, hg2⟩ := hrel
              have HG2 := Lib.hid (HG.out.trans hg2)
              have HG2' := Lib.hid hg2
              clear hg2
              have HS := Lib.hid (earOkN_succ h l i p q)
              by_cases h3 : q < n
              · have hqn' : decide ((q : Int) < (n : Int)) = true := decide_eq_true (by omega)
                by_cases h4 : q < ml
                · have hqm' : decide ((q : Int) < (ml : Int)) = true := decide_eq_true (by omega)
                  have hqh : q < h.length := by rw [HN.out]; exact h3
                  by_cases hqi : q = i
                  · have em : ((q : Int) != (i : Int)) = false := by simp [hqi]
                    have HS1 : Hid (earOkN h l i p (q + 1) = earOkN h l i p q) := Lib.hid (by rw [HS.out, hqi]; simp)
                    clear hqi hqh HS HNx HFn HE
                    generalize earOkN h l i p q = ok at *
                    go_wp2
                    go_quiet (fail)
                    go_wp2
                    exact ⟨⟨q + 1, by omega, by rw [HS1.out], by go_num, HG2'.out.drewN _⟩, by simp only [intOf]; omega⟩
                  · have em : ((q : Int) != (i : Int)) = true := by simp; omega
                    have em2 : (q != i) = true := by simpa using hqi
                    have hcq := HBool.out q h4 wr HG2.out
                    have hbq := HB0.out wr HG2.out
                    rcases htq : thB l q with _ | _
                    · rw [htq] at hcq
                      have HS1 : Hid (earOkN h l i p (q + 1) = earOkN h l i p q) := Lib.hid (by rw [HS.out, htq]; simp)
                      clear hqi hqh HS HNx HFn HE htq em2
                      generalize earOkN h l i p q = ok at *
                      go_wp2
                      go_quiet (fail)
                      go_wp2
                      exact ⟨⟨q + 1, by omega, by rw [HS1.out], by go_num, HG2'.out.drewN _⟩, by simp only [intOf]; omega⟩
                    · rw [htq] at hcq
                      obtain ⟨Q, qd, hq30, hQr⟩ := HGrid.out q hqh
                      have HQr := Lib.hid hQr
                      have hEq : edgeAt h q = h[q] := edgeAt_eq hqh
                      rw [em2, htq, hEq, HEi.out, HEp.out] at HS
                      have HSh := Lib.hid (fun W (hW : Grew w W) => rshared21_any ei h[q] D Q d qd (by omega) (by omega) W (HI.out W hW).2 (HQr.out W hW).2.2)
                      have hsl : (sharedI ei h[q]).length ≤ 30 := Nat.le_trans (setI_len _) (Nat.le_trans (List.length_filter_le _ _) hel30)
                      have HWi := Lib.hid (fun W A6 k6 (hW : Grew w W) (hR : Row W A6 (iV (sharedI ei h[q]))) => rwithin21_any (sharedI ei h[q]) ep A6 P k6 pd (by omega) (by omega) W hR (HPr.out W hW).2.2)
                      clear hqi htq em2 hQr hEq HNx HFn HE
                      generalize hqq : h[q] = eq at *
                      clear hqq hqh
                      obtain ⟨v, hv⟩ : ∃ v, withinI (sharedI ei eq) ep = v := ⟨_, rfl⟩
                      rw [hv] at HWi HS
                      clear hv
                      generalize sharedI ei eq = sh at *
                      generalize earOkN h l i p q = ok at *
                      have HCells := Lib.hid (fun W (hW : Grew w W) => And.intro (HI.out W hW).1 (And.intro (HQr.out W hW).2.1 (And.intro (HPr.out W hW).2.1 (HPr.out W hW).1)))
                      have HCb := Lib.hid (fun W (hW : Grew wr W) => (hW.cell (a := ⟨bb, bo + q, none⟩) hbq).trans hcq)
                      clear hcq
                      go_upto_region 11 with fail
                      refine wp_region_S (fun W => Grew wr W) (by kernel_rfl) ?_
                      refine held_take 0 (v := ?_) rfl (by kernel_rfl) (by kernel_rfl) (by kernel_rfl) (fun _ _ _ h => h) (by rfl) ?_ (Grew.refl _).drew ?_
                      rotate_left
                      · (intro W hW; go_simp; with_reducible rfl)
                      refine held_take 1 (v := ?_) rfl (by kernel_rfl) (by kernel_rfl) (by kernel_rfl) (fun _ _ _ h => h) (by rfl) ?_ (Grew.refl _).drew ?_
                      rotate_left
                      · (intro W hW; go_simp; with_reducible rfl)
                      refine held_take 2 (v := ?_) rfl (by kernel_rfl) (by kernel_rfl) (by kernel_rfl) (fun _ _ _ h => h) (by rfl) ?_ (Grew.refl _).drew ?_
                      rotate_left
                      · (intro W hW; go_simp; with_reducible rfl)
                      refine held_take 3 (v := ?_) rfl (by kernel_rfl) (by kernel_rfl) (by kernel_rfl) (fun _ _ _ h => h) (by rfl) ?_ (Grew.refl _).drew ?_
                      rotate_left
                      · (intro W hW; go_simp; with_reducible rfl)
                      refine held_norm (a' := ?_) ?_ ?_
                      rotate_left
                      · (go_simp; with_reducible rfl)
                      refine held_take 4 (v := ?_) rfl (by kernel_rfl) (by kernel_rfl) (by kernel_rfl) (fun _ _ _ h => h) (by rfl) ?_ (Grew.refl _).drew ?_
                      rotate_left
                      · (intro W hW; have c0 := HCb.out W hW; go_simp; with_reducible rfl)
                      refine held_take 5 (v := ?_) rfl (by kernel_rfl) (by kernel_rfl) (by kernel_rfl) (fun _ _ _ h => h) (by rfl) ?_ (Grew.refl _).drew ?_
                      rotate_left
                      · (intro W hW; have c0 := HCb.out W hW; go_simp; with_reducible rfl)
                      refine held_take 6 (v := ?_) rfl (by kernel_rfl) (by kernel_rfl) (by kernel_rfl) (fun _ _ _ h => h) (by rfl) ?_ (Grew.refl _).drew ?_
                      rotate_left
                      · (intro W hW; have c0 := HCb.out W hW; go_simp; with_reducible rfl)
                      refine held_take 7 (v := ?_) rfl (by kernel_rfl) (by kernel_rfl) (by kernel_rfl) (fun _ _ _ h => h) (by rfl) ?_ (Grew.refl _).drew ?_
                      rotate_left
                      · (intro W hW; have c0 := HCb.out W hW; go_simp; with_reducible rfl)
                      refine held_norm (a' := ?_) ?_ ?_
                      rotate_left
                      · (go_simp; with_reducible rfl)
                      refine held_take 8 (v := ?_) rfl (by kernel_rfl) (by kernel_rfl) (by kernel_rfl) (fun _ _ _ h => h) (by rfl) ?_ (Grew.refl _).drew ?_
                      rotate_left
                      · (intro W hW; go_simp; with_reducible rfl)
                      refine held_take 9 (v := ?_) rfl (by kernel_rfl) (by kernel_rfl) (by kernel_rfl) (fun _ _ _ h => h) (by rfl) ?_ (Grew.refl _).drew ?_
                      rotate_left
                      · (intro W hW; go_simp; with_reducible rfl)
                      refine held_norm (a' := ?_) ?_ ?_
                      rotate_left
                      · (go_simp; with_reducible rfl)
                      refine held_take 10 (v := ?_) rfl (by kernel_rfl) (by kernel_rfl) (by kernel_rfl) (fun _ _ _ h => h) (by rfl) ?_ (Grew.refl _).drew ?_
                      rotate_left
                      · (intro W hW; obtain ⟨c1, c2, c3, c4⟩ := HCells.out W (HG2.out.trans hW); go_simp; with_reducible rfl)
                      refine held_take 11 (v := ?_) rfl (by kernel_rfl) (by kernel_rfl) (by kernel_rfl) (fun _ _ _ h => h) (by rfl) ?_ (Grew.refl _).drew ?_
                      rotate_left
                      · (intro W hW; obtain ⟨c1, c2, c3, c4⟩ := HCells.out W (HG2.out.trans hW); go_simp; with_reducible rfl)
                      refine held_take 12 (v := ?_) rfl (by kernel_rfl) (by kernel_rfl) (by kernel_rfl) (fun _ _ _ h => h) (by rfl) ?_ (Grew.refl _).drew ?_
                      rotate_left
                      · (intro W hW; obtain ⟨c1, c2, c3, c4⟩ := HCells.out W (HG2.out.trans hW); go_simp; with_reducible rfl)
                      refine held_take 13 (v := ?_) rfl (by kernel_rfl) (by kernel_rfl) (by kernel_rfl) (fun _ _ _ h => h) (by rfl) ?_ (Grew.refl _).drew ?_
                      rotate_left
                      · (intro W hW; obtain ⟨c1, c2, c3, c4⟩ := HCells.out W (HG2.out.trans hW); go_simp; with_reducible rfl)
                      refine held_norm (a' := ?_) ?_ ?_
                      rotate_left
                      · (go_simp; with_reducible rfl)
                      refine held_take 14 (v := ?_) rfl (by kernel_rfl) (by kernel_rfl) (by kernel_rfl) (fun _ _ _ h => h) (by rfl) ?_ (Grew.refl _).drew ?_
                      rotate_left
                      · (intro W hW; obtain ⟨c1, c2, c3, c4⟩ := HCells.out W (HG2.out.trans hW); go_simp; with_reducible rfl)
                      refine held_take 15 (v := ?_) rfl (by kernel_rfl) (by kernel_rfl) (by kernel_rfl) (fun _ _ _ h => h) (by rfl) ?_ (Grew.refl _).drew ?_
                      rotate_left
                      · (intro W hW; obtain ⟨c1, c2, c3, c4⟩ := HCells.out W (HG2.out.trans hW); go_simp; with_reducible rfl)
                      refine held_take 16 (v := ?_) rfl (by kernel_rfl) (by kernel_rfl) (by kernel_rfl) (fun _ _ _ h => h) (by rfl) ?_ (Grew.refl _).drew ?_
                      rotate_left
                      · (intro W hW; obtain ⟨c1, c2, c3, c4⟩ := HCells.out W (HG2.out.trans hW); go_simp; with_reducible rfl)
                      refine held_take 17 (v := ?_) rfl (by kernel_rfl) (by kernel_rfl) (by kernel_rfl) (fun _ _ _ h => h) (by rfl) ?_ (Grew.refl _).drew ?_
                      rotate_left
                      · (intro W hW; obtain ⟨c1, c2, c3, c4⟩ := HCells.out W (HG2.out.trans hW); go_simp; with_reducible rfl)
                      refine held_norm (a' := ?_) ?_ ?_
                      rotate_left
                      · (go_simp; with_reducible rfl)
                      refine held_take 19 (v := ?_) rfl (by kernel_rfl) (by kernel_rfl) (by kernel_rfl) (fun _ _ _ h => h) (by rfl) ?_ (Grew.refl _).drew ?_
                      rotate_left
                      · (intro W hW; obtain ⟨c1, c2, c3, c4⟩ := HCells.out W (HG2.out.trans hW); go_simp; with_reducible rfl)
                      refine held_take 20 (v := ?_) rfl (by kernel_rfl) (by kernel_rfl) (by kernel_rfl) (fun _ _ _ h => h) (by rfl) ?_ (Grew.refl _).drew ?_
                      rotate_left
                      · (intro W hW; obtain ⟨c1, c2, c3, c4⟩ := HCells.out W (HG2.out.trans hW); go_simp; with_reducible rfl)
                      refine held_take 21 (v := ?_) rfl (by kernel_rfl) (by kernel_rfl) (by kernel_rfl) (fun _ _ _ h => h) (by rfl) ?_ (Grew.refl _).drew ?_
                      rotate_left
                      · (intro W hW; obtain ⟨c1, c2, c3, c4⟩ := HCells.out W (HG2.out.trans hW); go_simp; with_reducible rfl)
                      refine held_take 22 (v := ?_) rfl (by kernel_rfl) (by kernel_rfl) (by kernel_rfl) (fun _ _ _ h => h) (by rfl) ?_ (Grew.refl _).drew ?_
                      rotate_left
                      · (intro W hW; obtain ⟨c1, c2, c3, c4⟩ := HCells.out W (HG2.out.trans hW); go_simp; with_reducible rfl)
                      refine held_norm (a' := ?_) ?_ ?_
                      rotate_left
                      · (go_simp; with_reducible rfl)
                      refine held_call 18 (by kernel_rfl) rfl (by rfl) (fun K hK => ?_)
                      go_simp
                      go_wp2_with (go_at_call 58; (with_reducible refine (HSh.out _ (HG2.out.drew)).mono ?_); rintro e w6 ⟨A6, k6, rfl, _, hg6, hr6⟩; have G6 := Lib.hid ((Grew.refl wr).drew.trans hg6); have HR6 := Lib.hid hr6.plain; clear hg6 hr6)
                      refine hK.out _ _ G6.out ?_
                      clear hK K
                      refine held_call 23 (by kernel_rfl) rfl (by rfl) (fun K hK => ?_)
                      go_simp
                      go_wp2_with (go_at_call 60; (with_reducible refine (HWi.out _ _ _ (HG2.out.trans G6.out) HR6.out).grows.mono ?_); rintro e w7 ⟨rfl, hg7⟩; have G7 := Lib.hid (G6.out.trans hg7); clear hg7)
                      refine hK.out _ _ G7.out ?_
                      clear hK K
                      refine held_take 24 (v := ?_) rfl (by kernel_rfl) (by kernel_rfl) (by kernel_rfl) (fun _ _ _ h => h) (by rfl) ?_ G7.out ?_
                      rotate_left
                      · (intro W hW; go_simp; with_reducible rfl)
                      refine held_take 25 (v := ?_) rfl (by kernel_rfl) (by kernel_rfl) (by kernel_rfl) (fun _ _ _ h => h) (by rfl) ?_ G7.out ?_
                      rotate_left
                      · (intro W hW; go_simp; with_reducible rfl)
                      refine held_norm (a' := ?_) ?_ ?_
                      rotate_left
                      · (go_simp; with_reducible rfl)
                      refine held_done (by kernel_rfl) ?_
                      cases v
                      · have HS1 : Hid (earOkN h l i p (q + 1) = false) := Lib.hid (by rw [HS.out]; simp)
                        clear HS
                        go_wp2
                        exact ⟨⟨q + 1, by omega, by rw [HS1.out], by go_num, HG2'.out.trans G7.out⟩, by simp only [intOf]; omega⟩
                      · have HS1 : Hid (earOkN h l i p (q + 1) = ok) := Lib.hid (by rw [HS.out]; simp)
                        clear HS
                        go_wp2
                        exact ⟨⟨q + 1, by omega, by rw [HS1.out], by go_num, HG2'.out.trans G7.out⟩, by simp only [intOf]; omega⟩
                · have HOK : Hid (earOkN h l i p q = earOk h l i p) := Lib.hid (by
                    rw [← HOkN.out p, ← earOkN_end (h := h) (i := i) (p := p) (k := q) (fun j hj => thB_out (by rw [HMl.out]; omega)) (n - q), show q + (n - q) = n by omega])
                  have hqm' : decide ((q : Int) < (ml : Int)) = false := decide_eq_false (by omega)
                  rcases hok : earOk h l i p with _ | _
                  · rw [hok] at HOK HE
                    have HN1 := Lib.hid (HNx.out (by rw [HE.out]; rfl))
                    rw [HOK.out]
                    clear HNx HFn HE hok HS HOK
                    go_wp2
                    exact ⟨⟨p + 1, by omega, by go_num, HG2.out, HN1.out⟩, by simp only [intOf]; omega⟩
                  · rw [hok] at HOK HE
                    have HF := Lib.hid (HFn.out (by rw [HE.out]; rfl))
                    rw [HOK.out]
                    clear HNx HFn HE hok HS HOK
                    obtain rfl := HF.out
                    go_wp2
                    go_ret
                    exact ⟨rfl, HG2.out⟩
              · have HOK : Hid (earOkN h l i p q = earOk h l i p) := Lib.hid (by
                  rw [show q = n by omega]; exact HOkN.out p)
                obtain rfl : q = n := by omega
                have hqn' : decide ((q : Int) < (q : Int)) = false := decide_eq_false (by omega)
                rcases hok : earOk h l i p with _ | _
                · rw [hok] at HOK HE
                  have HN1 := Lib.hid (HNx.out (by rw [HE.out]; rfl))
                  rw [HOK.out]
                  clear HNx HFn HE hok HS HOK
                  go_wp2
                  exact ⟨⟨p + 1, by omega, by go_num, HG2.out, HN1.out⟩, by simp only [intOf]; omega⟩
                · rw [hok] at HOK HE
                  have HF := Lib.hid (HFn.out (by rw [HE.out]; rfl))
                  rw [HOK.out]
                  clear HNx HFn HE hok HS HOK
                  obtain rfl := HF.out
                  go_wp2
                  go_ret
                  exact ⟨rfl, HG2.out⟩
      · have HZ : Hid (∀ j, j < n → earQ h l i j = false) := Lib.hid fun j hj => by
          by_cases hjp : j < p
          · exact HQ.out j hjp
          · unfold earQ
            rw [thB_out (by rw [HMl.out]; omega)]
            simp
        obtain rfl := HNone.out HZ.out
        have hpm : decide ((p : Int) < (ml : Int)) = false := decide_eq_false (by omega)
        have hpm2 : (ml : Int) ≤ p := by omega
        clear HQ HZ
        go_wp2
        go_ret
        exact ⟨rfl, HG.out⟩
    · obtain rfl : p = n := by omega
      obtain rfl := HNone.out HQ.out
      have hpn : decide ((p : Int) < (p : Int)) = false := decide_eq_false (by omega)
      clear HQ
      go_wp2
      go_ret
      exact ⟨rfl, HG.out⟩
/-- An ear, by the document. -/
theorem rear22_any (h : List (List Int)) (n : Nat) (hn : h.length = n) (hn1 : n ≤ 1000) (hel : ∀ e ∈ h, e.length ≤ 30) (l : List Bool) (A B : Option Addr) (k c : Nat) (i : Int) (w : World) (ra : GridI (PRow w) A h) (rb : Row w B (bL l)) :
    Gives Try.prog 74 #[.slice A n k, .slice B l.length c, .int .i64 i] w (earT (earR h l i)) := by
  have HP := Lib.hid (rparent22_any h n hn hn1 hel l A B k c i w ra rb)
  clear ra rb hn hel
  generalize earR h l i = o at *
  unfold Gives
  cases o with
  | none =>
    unfold parV at HP
    simp only at HP
    go_enter Try.func74, Try.ntmps74
    go_wp2_with (go_at_call 154; (with_reducible refine HP.out.grows.mono ?_); rintro e w6 ⟨rfl, hg6⟩; have HG6 := Lib.hid hg6; clear hg6)
    go_ret2
    exact ⟨rfl, HG6.out⟩
  | some p =>
    unfold parV at HP
    simp only at HP
    have hp : (0 : Int) ≤ (p : Int) := by omega
    have hp2 : decide ((p : Int) < 0) = false := decide_eq_false (by omega)
    go_enter Try.func74, Try.ntmps74
    go_wp2_with (go_at_call 154; (with_reducible refine HP.out.grows.mono ?_); rintro e w6 ⟨rfl, hg6⟩; have HG6 := Lib.hid hg6; clear hg6)
    go_ret2
    exact ⟨rfl, HG6.out⟩
end Go.Proofs.Ytfdjnhnchibejaa
