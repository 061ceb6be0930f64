/- How often a row is there, and whether two lists are one bag: by the program (how often), by the document. Condition: rows that lie in memory that is there. -/
import Derived.Test.YtklhledcnijchaaDoorSortM
import Derived.Test.YtklhledcnijchaaDoorEqF
namespace Go.Proofs.YtklhledcnijchaaDoor
open Go.RowKit
attribute [local go_sem] more_cell more_frozen more_more more_setCell more_of_drew more_of_drewN lt_more le_more past_cell past_cell2 past_frozen past_frozen2 past_setCell past_setCell2 mid_cell mid_frozen mid_setCell
attribute [local go_sem ↓] Go.wp_at_zero Go.wp_at_succ

def CnAt (w : World) (l : List (List Vl)) (r : List Vl) (n i : Value) (wr : World) : Prop := ∃ j : Nat, j ≤ l.length ∧ i = .int .i64 j ∧ n = .int .i64 (cntR (l.take j) r : Nat) ∧ Grew w wr
set_option maxHeartbeats 1000000 in
set_option maxRecDepth 100000 in
theorem count_any (l : List (List Vl)) (r : List Vl) (hl : RwsOk l) (A B : Option Addr) (k c : Nat) (w : World) (ra : RwsR (PRow w) A l) (rb : VlsR (PRow w) B r) :
    Gives Tryd.prog 28 #[.slice A l.length k, .slice B r.length c] w (.int .i64 (cntR l r : Nat)) := by
  have RA := Lib.hid ra
  have RB := Lib.hid rb
  have hlen := hl.1
  have HO := Lib.hid hl.2
  clear ra rb hl
  unfold Gives
  go_enter Tryd.func28, Tryd.ntmps28
  go_wp2
  go_loopw [5, 10] (fun n i wr => CnAt w l r n i wr) (fun _ i _ => l.length - (intOf i).toNat)
  case atStart => exact ⟨0, Nat.zero_le _, rfl, rfl, Grew.refl w⟩
  case round =>
    obtain ⟨j, hj, rfl, rfl, hg⟩ := hrel
    have HG := Lib.hid hg
    clear hg
    by_cases h : j < l.length
    · have hji : (j : Int) < (l.length : Int) := by omega
      have e0 : decide ((j : Int) < (l.length : Int)) = true := decide_eq_true hji
      obtain ⟨b, o, PA, ka, rfl, hb, c0, _, hva⟩ := rwsR_at (RA.out.grew HG.out) h
      have hlx := (HO.out _ (List.getElem_mem h)).1
      have hcn := cntR_le (l.take j) r
      rw [List.length_take] at hcn
      have HSt := Lib.hid (cntR_take (r := r) h)
      obtain ⟨ts, hts⟩ := some_of (l[j] = r)
      have HTS := Lib.hid hts
      have HC : Hid (∀ W, Grew wr W → Gives Tryd.prog 11 #[.slice PA l[j].length ka, .slice B r.length c] W (.bool ts)) := Lib.hid fun W hW => rowsSame_any l[j] r PA B ka c hlx ts hts W (hva.grew hW) (RB.out.grew (HG.out.trans hW))
      clear hts hva
      generalize cntR (l.take j) r = n at *
      obtain ⟨n2, hn2⟩ : ∃ n2, cntR (l.take (j + 1)) r = n2 := ⟨_, rfl⟩
      have HE2 := Lib.hid hn2
      rw [hn2] at HSt
      clear hn2
      generalize l[j] = x at *
      have hw1 : IntKind.i64.wrap ((n : Int) + 1) = (n : Int) + 1 := IntWalk.i64_in _ (by omega)
      go_wp2_with fail
      (with_reducible refine (HC.out _ (Grew.refl _)).grows.mono ?_)
      rintro e w2 ⟨rfl, hg2⟩
      have HG2 := Lib.hid (HG.out.trans hg2)
      clear hg2 HC HG
      cases ts
      · have hn : n2 = n := by rw [HSt.out, if_neg fun e => by have := HTS.out.2 e; cases this]
        subst hn
        go_wp2
        exact ⟨⟨j + 1, by omega, by go_num, by rw [HE2.out], HG2.out⟩, by simp only [intOf]; omega⟩
      · have hn : n2 = n + 1 := by rw [HSt.out, if_pos (HTS.out.1 rfl)]
        subst hn
        go_wp2
        exact ⟨⟨j + 1, by omega, by go_num, by rw [HE2.out]; rfl, HG2.out⟩, by simp only [intOf]; omega⟩
    · obtain rfl : j = l.length := by omega
      rw [List.take_length]
      obtain ⟨n, hn⟩ : ∃ n, cntR l r = n := ⟨_, rfl⟩
      rw [hn]
      have HEn := Lib.hid hn
      clear hn
      go_wp2
      go_ret
      exact ⟨by rw [HEn.out]; rfl, HG.out⟩
set_option maxHeartbeats 1000000 in
set_option maxRecDepth 100000 in
theorem rcount_any (l : List (List Vl)) (r : List Vl) (hl : RwsOk l) (A B : Option Addr) (k c : Nat) (w : World) (ra : RwsR (PRow w) A l) (rb : VlsR (PRow w) B r) :
    Gives Tryd.prog 29 #[.slice A l.length k, .slice B r.length c] w (.int .i64 (cntR l r : Nat)) := by
  have RA := Lib.hid ra
  have RB := Lib.hid rb
  have hlen := hl.1
  have HO := Lib.hid hl.2
  clear ra rb hl
  unfold Gives
  go_enter Tryd.func29, Tryd.ntmps29
  go_wp2
  go_loopw [5, 6] (fun n i wr => CnAt w l r n i wr) (fun _ i _ => l.length - (intOf i).toNat)
  case atStart => exact ⟨0, Nat.zero_le _, rfl, rfl, Grew.refl w⟩
  case round =>
    obtain ⟨j, hj, rfl, rfl, hg⟩ := hrel
    have HG := Lib.hid hg
    clear hg
    by_cases h : j < l.length
    · have hji : (j : Int) < (l.length : Int) := by omega
      have e0 : decide ((j : Int) < (l.length : Int)) = true := decide_eq_true hji
      obtain ⟨b, o, PA, ka, rfl, hb, c0, _, hva⟩ := rwsR_at (RA.out.grew HG.out) h
      have hlx := (HO.out _ (List.getElem_mem h)).1
      have hcn := cntR_le (l.take j) r
      rw [List.length_take] at hcn
      have HSt := Lib.hid (cntR_take (r := r) h)
      obtain ⟨ts, hts⟩ := some_of (l[j] = r)
      have HTS := Lib.hid hts
      have HC : Hid (∀ W, Grew wr W → Gives Tryd.prog 12 #[.slice PA l[j].length ka, .slice B r.length c] W (.bool ts)) := Lib.hid fun W hW => rsameRow_any l[j] r PA B ka c hlx ts hts W (hva.grew hW) (RB.out.grew (HG.out.trans hW))
      clear hts hva
      generalize cntR (l.take j) r = n at *
      obtain ⟨n2, hn2⟩ : ∃ n2, cntR (l.take (j + 1)) r = n2 := ⟨_, rfl⟩
      have HE2 := Lib.hid hn2
      rw [hn2] at HSt
      clear hn2
      generalize l[j] = x at *
      have hw1 : IntKind.i64.wrap ((n : Int) + 1) = (n : Int) + 1 := IntWalk.i64_in _ (by omega)
      go_wp2_with fail
      (with_reducible refine (HC.out _ (Grew.refl _)).grows.mono ?_)
      rintro e w2 ⟨rfl, hg2⟩
      have HG2 := Lib.hid (HG.out.trans hg2)
      clear hg2 HC HG
      cases ts
      · have hn : n2 = n := by rw [HSt.out, if_neg fun e => by have := HTS.out.2 e; cases this]
        subst hn
        go_wp2
        exact ⟨⟨j + 1, by omega, by go_num, by rw [HE2.out], HG2.out⟩, by simp only [intOf]; omega⟩
      · have hn : n2 = n + 1 := by rw [HSt.out, if_pos (HTS.out.1 rfl)]
        subst hn
        go_wp2
        exact ⟨⟨j + 1, by omega, by go_num, by rw [HE2.out]; rfl, HG2.out⟩, by simp only [intOf]; omega⟩
    · obtain rfl : j = l.length := by omega
      rw [List.take_length]
      obtain ⟨n, hn⟩ : ∃ n, cntR l r = n := ⟨_, rfl⟩
      rw [hn]
      have HEn := Lib.hid hn
      clear hn
      go_wp2
      go_ret
      exact ⟨by rw [HEn.out]; rfl, HG.out⟩
def BgAt (w : World) (a b : List (List Vl)) (i : Value) (wr : World) : Prop := ∃ j : Nat, j ≤ a.length ∧ i = .int .i64 j ∧ Grew w wr ∧ ∀ q (h : q < a.length), q < j → cntR a a[q] = cntR b a[q]
set_option maxHeartbeats 1000000 in
set_option maxRecDepth 100000 in
theorem rsameBag_any (a b : List (List Vl)) (ha : RwsOk a) (hb : RwsOk b) (t : Bool) (ht : t = true ↔ a.Perm b) (A B : Option Addr) (k c : Nat) (w : World) (ra : RwsR (PRow w) A a) (rb : RwsR (PRow w) B b) :
    Gives Tryd.prog 26 #[.slice A a.length k, .slice B b.length c] w (.bool t) := by
  have RA := Lib.hid ra
  have RB := Lib.hid rb
  have HA := Lib.hid ha
  have HB := Lib.hid hb
  have hlen := ha.1
  have HT := Lib.hid (ht.trans bag_iff.symm)
  clear ra rb ha hb ht
  unfold Gives
  by_cases hmm : a.length = b.length
  · have HM := Lib.hid hmm
    rw [← hmm]
    clear hmm
    go_enter Tryd.func26, Tryd.ntmps26
    go_wp2
    go_loopw [5] (fun i wr => BgAt w a b i wr) (fun i _ => a.length - (intOf i).toNat)
    case atStart => exact ⟨0, Nat.zero_le _, rfl, Grew.refl w, fun q _ h => by omega⟩
    case round =>
      obtain ⟨j, hj, rfl, hg, hk⟩ := hrel
      have HG := Lib.hid hg
      have HK := Lib.hid hk
      clear hg hk
      by_cases h : j < a.length
      · have hji : (j : Int) < (a.length : Int) := by omega
        have e0 : decide ((j : Int) < (a.length : Int)) = true := decide_eq_true hji
        obtain ⟨pb, po, PA, ka, rfl, hpb, c0, _, hva⟩ := rwsR_at (RA.out.grew HG.out) h
        have HC1 : Hid (∀ x, Gives Tryd.prog 29 #[.slice (some ⟨pb, po, none⟩) a.length k, .slice PA a[j].length ka] (more wr x) (.int .i64 (cntR a a[j] : Nat))) := Lib.hid fun x => rcount_any a a[j] HA.out _ PA k ka _ (RA.out.grew (HG.out.more x)) (hva.grew ((Grew.refl wr).more x))
        have HC2 : Hid (∀ x, Gives Tryd.prog 29 #[.slice B a.length c, .slice PA a[j].length ka] (more wr x) (.int .i64 (cntR b a[j] : Nat))) := Lib.hid fun x => by
          rw [HM.out]
          exact rcount_any b a[j] HB.out _ PA c ka _ (RB.out.grew (HG.out.more x)) (hva.grew ((Grew.refl wr).more x))
        have HF : Hid (cntR a a[j] ≠ cntR b a[j] → t = false) := Lib.hid fun hn => not_of HT.out fun e => hn (e.2 j h)
        have HN : Hid (cntR a a[j] = cntR b a[j] → ∀ q (h : q < a.length), q < j + 1 → cntR a a[q] = cntR b a[q]) := Lib.hid fun he q hq hqj => by
          by_cases hqe : q = j
          · subst hqe; exact he
          · exact HK.out q hq (by omega)
        clear hva HA HB RA RB HK HT
        generalize cntR a a[j] = ca at *
        generalize cntR b a[j] = cb at *
        generalize a[j] = x at *
        go_upto_region 6 with fail
        refine wp_region_more (by kernel_rfl) (by kernel_rfl) ?_
        repeat (go_big_quiet_step (((first | (go_at_call 29; with_reducible exact (HC1.out _).within) | (go_at_call 29; with_reducible exact (HC2.out _).within)))))
        refine wpQuiet_nil ?_
        rintro _ ⟨z, rfl⟩
        by_cases hc : ca = cb
        · have hne : ((ca : Int) != (cb : Int)) = false := by simp [hc]
          have HN2 := Lib.hid (HN.out hc)
          clear hc HF HN HC1 HC2
          go_wp2
          exact ⟨⟨j + 1, by omega, by go_num, HG.out.more z, HN2.out⟩, by simp only [intOf]; omega⟩
        · have hne : ((ca : Int) != (cb : Int)) = true := by simp; omega
          obtain rfl := HF.out hc
          clear HN HC1 HC2
          go_wp2
          go_ret
          exact ⟨rfl, HG.out.more z⟩
      · obtain rfl : j = a.length := by omega
        have ht : t = true := HT.out.2 ⟨HM.out, fun i hi => HK.out i hi hi⟩
        subst ht
        clear HK HA HB RA RB HT
        go_wp2
        go_ret
        exact ⟨rfl, HG.out⟩
  · have e0 : ((a.length : Int) != (b.length : Int)) = true := by rw [bne_iff_ne]; omega
    obtain rfl := not_of HT.out (fun e => hmm e.1)
    clear HA HB HT
    go_enter Tryd.func26, Tryd.ntmps26
    go_wp2
    go_ret
    exact ⟨rfl, by (show Grew _ _; repeat (first | exact Grew.refl _ | refine Grew.alloc ?_ _ | refine Grew.drew ?_ | refine Grew.more ?_ _))⟩
end Go.Proofs.YtklhledcnijchaaDoor
