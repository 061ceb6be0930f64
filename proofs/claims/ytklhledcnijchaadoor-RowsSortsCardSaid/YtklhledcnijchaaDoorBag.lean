/- Layer 4: rows.SameBag. Condition: rows that lie in memory that is there; no more than a million. -/
import Derived.Test.YtklhledcnijchaaDoorRowsSort
namespace Go.Proofs.YtklhledcnijchaaDoor
open Go.RowKit
attribute [local go_sem] more_cell more_frozen more_more more_setCell more_of_drew more_of_drewN lt_more le_more past_cell past_cell2 past_frozen past_frozen2 past_setCell past_setCell2 mid_cell mid_frozen mid_setCell
attribute [local go_sem ↓] Go.wp_at_zero Go.wp_at_succ

set_option maxHeartbeats 1000000 in
set_option maxRecDepth 100000 in
theorem rowsEqF_any (l l' : List (List Vl)) (A B : Option Addr) (k j : Nat) (hs : RwsOk l) (t : Bool) (ht : t = true ↔ l = l') (w : World) (ra : RwsR (PRow w) A l) (rb : RwsR (PRow w) B l') :
    Gives Tryd.prog 58 #[.slice A l.length k, .slice B l'.length j, .func (.func 11) #[] #[]] w (.bool t) := by
  have RA := Lib.hid ra
  have RB := Lib.hid rb
  have HT := Lib.hid ht
  have hlen := hs.1
  have HO := Lib.hid hs.2
  clear ra rb ht hs
  unfold Gives
  by_cases hmm : l.length = l'.length
  · have HM := Lib.hid hmm
    rw [← hmm]
    clear hmm
    have e9 : ((l.length : Int) != (l.length : Int)) = false := by simp
    go_enter Tryd.func58, Tryd.ntmps58
    go_wp2
    go_loopw [17] (fun i wr => EqR4 w l l' i wr) (fun i _ => l.length - (intOf i).toNat)
    case atStart => exact ⟨0, Nat.zero_le _, rfl, Grew.refl w, rfl⟩
    case round =>
      obtain ⟨i, hi, rfl, hg, hk⟩ := hrel
      have HG := Lib.hid hg
      have HK := Lib.hid hk
      clear hg hk
      by_cases h : i < l.length
      · have h2 : i < l'.length := by rw [← HM.out]; exact h
        have e0 : decide ((i : Int) < (l.length : Int)) = true := decide_eq_true (by omega)
        have hil : (i : Int) < (l.length : Int) := by omega
        obtain ⟨b, o, PA, ka, rfl, hb, c0, _, hva⟩ := rwsR_at (RA.out.grew HG.out) h
        obtain ⟨b', o', PB, kb, rfl, hb', d0, _, hvb⟩ := rwsR_at (RB.out.grew HG.out) h2
        have hlx := (HO.out _ (List.getElem_mem h)).1
        have HN : Hid (l[i] = l'[i] → l.take (i + 1) = l'.take (i + 1)) := Lib.hid fun q => take_eq HK.out h h2 q
        have HF : Hid (¬ l[i] = l'[i] → t = false) := Lib.hid fun q => not_of HT.out (by
          intro e
          subst e
          exact q rfl)
        obtain ⟨ts, hts⟩ := some_of (l[i] = l'[i])
        have HC : Hid (Gives Tryd.prog 11 #[.slice PA l[i].length ka, .slice PB l'[i].length kb] wr (.bool ts)) := Lib.hid (rowsSame_any _ _ PA PB ka kb hlx ts hts _ hva hvb)
        have HTS := Lib.hid hts
        clear hts HT HK hva hvb
        generalize l[i] = x at *
        generalize l'[i] = y at *
        go_wp2_with fail
        (with_reducible refine HC.out.grows.mono ?_)
        rintro e w5 ⟨rfl, hg5⟩
        have HG5 := Lib.hid (HG.out.trans hg5)
        clear hg5 HC HG
        cases ts
        · obtain rfl := HF.out fun e => by have := HTS.out.2 e; cases this
          go_wp2
          go_ret
          exact ⟨rfl, HG5.out⟩
        · go_wp2
          exact ⟨⟨i + 1, by omega, by go_num, HG5.out, HN.out (HTS.out.1 (by trivial))⟩, by simp only [intOf]; omega⟩
      · obtain rfl : i = l.length := by omega
        have e0 : decide ((l.length : Int) < (l.length : Int)) = false := decide_eq_false (by omega)
        have ht : t = true := HT.out.2 (by
          have := HK.out
          rwa [List.take_length, List.take_of_length_le (Nat.le_of_eq HM.out.symm)] at this)
        subst ht
        go_wp2
        go_ret
        exact ⟨rfl, HG.out⟩
  · have e0 : ((l.length : Int) != (l'.length : Int)) = true := by rw [bne_iff_ne]; omega
    obtain rfl := not_of HT.out (fun e => hmm (by rw [e]))
    go_enter Tryd.func58, Tryd.ntmps58
    go_wp2
    go_ret
    exact ⟨rfl, by (show Grew _ _; repeat (first | exact Grew.refl _ | refine Grew.alloc ?_ _ | refine Grew.drew ?_ | refine Grew.more ?_ _))⟩
theorem sortR_ok' {l : List (List Vl)} (h : RwsOk l) : RwsOk (sortR l) := ⟨by rw [sortR_len]; exact h.1, fun v hv => h.2 v ((sortR_perm l).mem_iff.1 hv)⟩
set_option maxHeartbeats 1000000 in
set_option maxRecDepth 100000 in
theorem rowsSameBag_any (a b : List (List Vl)) (ha : RwsOk a) (hb : RwsOk b) (la : a.length ≤ 1000000) (lb : b.length ≤ 1000000) (t : Bool) (ht : t = true ↔ a.Perm b) (A B : Option Addr) (k c : Nat) (w : World) (ra : RwsR (PRow w) A a) (rb : RwsR (PRow w) B b) :
    Gives Tryd.prog 27 #[.slice A a.length k, .slice B b.length c] w (.bool t) := by
  have HA : Hid (Calls Tryd.prog 24 #[.slice A a.length k] w (SortF w a)) := Lib.hid (rowsSort_any a ha la A k w ra)
  have HB : Hid (∀ W, Grew w W → Calls Tryd.prog 24 #[.slice B b.length c] W (SortF W b)) := Lib.hid fun W hW => rowsSort_any b hb lb B c W (rb.grew hW)
  have HE : Hid (∀ W A1 k1 A2 k2, RwsR (PRow W) A1 (sortR a) → RwsR (PRow W) A2 (sortR b) → Gives Tryd.prog 58 #[.slice A1 a.length k1, .slice A2 b.length k2, .func (.func 11) #[] #[]] W (.bool t)) := Lib.hid fun W A1 k1 A2 k2 h1 h2 => by
    have hx := rowsEqF_any (sortR a) (sortR b) A1 A2 k1 k2 (sortR_ok' ha) t (ht.trans sortR_eq.symm) W h1 h2
    rwa [sortR_len, sortR_len] at hx
  clear ra rb ha hb ht
  unfold Gives
  go_enter Tryd.func27, Tryd.ntmps27
  go_wp2_with fail
  refine HA.out.mono ?_
  rintro e w1 ⟨A1, k1, rfl, hg1, hr1⟩
  have HG1 := Lib.hid hg1
  have HR1 := Lib.hid hr1
  clear hg1 hr1 HA
  go_wp2_with fail
  refine (HB.out w1 HG1.out).mono ?_
  rintro e w2 ⟨A2, k2, rfl, hg2, hr2⟩
  have HG2 := Lib.hid (HG1.out.trans hg2)
  have HR2 := Lib.hid hr2
  have HR12 := Lib.hid (HR1.out.grew hg2)
  clear hg2 hr2 HB HG1 HR1
  go_wp2_with fail
  (with_reducible refine (HE.out w2 A1 k1 A2 k2 HR12.out HR2.out).grows.mono ?_)
  rintro e w3 ⟨rfl, hg3⟩
  have HG3 := Lib.hid (HG2.out.trans hg3)
  clear hg3 HG2 HR12 HR2 HE
  go_wp2
  go_ret
  exact ⟨rfl, HG3.out⟩
end Go.Proofs.YtklhledcnijchaaDoor
