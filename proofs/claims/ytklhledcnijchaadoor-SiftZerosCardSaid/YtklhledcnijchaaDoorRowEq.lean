/- Layer 4: the document's Same and SameList of rows. Condition: rows that lie in memory that is there. -/
import Derived.Test.YtklhledcnijchaaDoorRowMuch
import Derived.Test.YtklhledcnijchaaDoorVal
import Derived.Deep.DeepCutAuto
namespace Go.Proofs.YtklhledcnijchaaDoor
open Go.RowKit
attribute [local go_sem] more_cell more_frozen more_more more_setCell more_of_drew more_of_drewN lt_more le_more past_cell past_cell2 past_frozen past_frozen2 past_setCell past_setCell2 mid_cell mid_frozen mid_setCell
attribute [local go_sem ↓] Go.wp_at_zero Go.wp_at_succ

theorem sameV_iff (x y : Vl) : sameV x.k x.i x.s y.k y.i y.s = true ↔ x = y := by
  unfold sameV
  obtain ⟨k, i, s⟩ := x
  obtain ⟨k', i', s'⟩ := y
  simp only [Bool.and_eq_true, beq_iff_eq, Vl.mk.injEq]
  exact ⟨fun ⟨h1, h2, h3⟩ => ⟨h1, h2, txt_ext h3⟩, fun ⟨h1, h2, h3⟩ => ⟨h1, h2, by rw [h3]⟩⟩
theorem not_of {p : Prop} {t : Bool} (h : t = true ↔ p) (hn : ¬ p) : t = false := by
  cases t
  · rfl
  · exact absurd (h.1 rfl) hn
theorem some_of (p : Prop) : ∃ t : Bool, (t = true ↔ p) := by
  by_cases h : p
  · exact ⟨true, by simp [h]⟩
  · exact ⟨false, by simp [h]⟩
theorem take_eq {α : Type} {l m : List α} {j : Nat} (h : l.take j = m.take j) (h1 : j < l.length) (h2 : j < m.length) (he : l[j] = m[j]) : l.take (j + 1) = m.take (j + 1) := by
  rw [List.take_succ_eq_append_getElem h1, List.take_succ_eq_append_getElem h2, h, he]
def EqR4 {α : Type} (w : World) (l m : List α) (i : Value) (wr : World) : Prop := ∃ j : Nat, j ≤ l.length ∧ i = .int .i64 j ∧ Grew w wr ∧ l.take j = m.take j
set_option maxHeartbeats 1000000 in
theorem rsameRow_any (l l' : List Vl) (A B : Option Addr) (k j : Nat) (hs : l.length ≤ 140737488355328) (t : Bool) (ht : t = true ↔ l = l') (w : World) (ra : VlsR (PRow w) A l) (rb : VlsR (PRow w) B l') :
    Gives Tryd.prog 12 #[.slice A l.length k, .slice B l'.length j] w (.bool t) := by
  have RA := Lib.hid ra
  have RB := Lib.hid rb
  have HT := Lib.hid ht
  clear ra rb ht
  unfold Gives
  by_cases hmm : l.length = l'.length
  · have HM := Lib.hid hmm
    rw [← hmm]
    clear hmm
    go_enter Tryd.func12, Tryd.ntmps12
    go_wp2
    go_loopw [5] (fun i wr => EqR4 w l l' i wr) (fun i _ => l.length - (intOf i).toNat)
    case atStart => exact ⟨0, Nat.zero_le _, rfl, Grew.refl w, rfl⟩
    case round =>
      obtain ⟨i, hi, rfl, hg, hk⟩ := hrel
      have HG := Lib.hid hg
      have HK := Lib.hid hk
      clear hg hk
      by_cases h : i < l.length
      · have h2 : i < l'.length := by rw [← HM.out]; exact h
        obtain ⟨b, o, rfl, hb, c0, c1, c2⟩ := vlsR_at (RA.out.grew HG.out) h
        obtain ⟨b', o', rfl, hb', d0, d1, d2⟩ := vlsR_at (RB.out.grew HG.out) h2
        have HN : Hid (l[i] = l'[i] → l.take (i + 1) = l'.take (i + 1)) := Lib.hid fun q => take_eq HK.out h h2 q
        have HF : Hid (¬ l[i] = l'[i] → t = false) := Lib.hid fun q => not_of HT.out (by
          intro e
          subst e
          exact q rfl)
        clear HT HK
        generalize l[i] = x at *
        generalize l'[i] = y at *
        obtain ⟨ts, hts⟩ : ∃ ts, sameV x.k x.i x.s y.k y.i y.s = ts := ⟨_, rfl⟩
        have HC : Hid (∀ W, Gives Tryd.prog 48 #[.agg #[.int .i64 x.k, .int .i64 x.i, .string x.s], .agg #[.int .i64 y.k, .int .i64 y.i, .string y.s]] W (.bool ts)) := Lib.hid fun W => by rw [← hts]; exact rsame_any _ _ _ _ _ _ _
        have HTS := Lib.hid hts
        clear hts
        go_upto_region 6 with fail
        refine wp_region_more (by kernel_rfl) (by kernel_rfl) ?_
        repeat (go_big_quiet_step (((first | (go_at_call 48; exact (HC.out _).within)))))
        refine wpQuiet_nil ?_
        rintro _ ⟨z, rfl⟩
        cases ts
        · obtain rfl := HF.out fun e => by have := (sameV_iff x y).2 e; rw [HTS.out] at this; cases this
          go_wp2
          go_ret
          exact ⟨rfl, HG.out.more z⟩
        · go_wp2
          exact ⟨⟨i + 1, by omega, by go_num, HG.out.more z, HN.out ((sameV_iff x y).1 HTS.out)⟩, by simp only [intOf]; omega⟩
      · obtain rfl : i = l.length := by omega
        have ht : t = true := HT.out.2 (by
          have := HK.out
          rwa [List.take_length, List.take_of_length_le (Nat.le_of_eq HM.out.symm)] at this)
        subst ht
        go_wp2
        go_ret
        exact ⟨rfl, HG.out⟩
  · have e0 : ((l.length : Int) != (l'.length : Int)) = true := by rw [bne_iff_ne]; omega
    obtain rfl := not_of HT.out (fun e => hmm (by rw [e]))
    go_enter Tryd.func12, Tryd.ntmps12
    go_wp2
    go_ret
    exact ⟨rfl, by (show Grew _ _; repeat (first | exact Grew.refl _ | refine Grew.alloc ?_ _ | refine Grew.drew ?_ | refine Grew.more ?_ _))⟩
set_option maxHeartbeats 1000000 in
theorem rsameRows_any (l l' : List (List Vl)) (A B : Option Addr) (k j : Nat) (hs : RwsOk l) (t : Bool) (ht : t = true ↔ l = l') (w : World) (ra : RwsR (PRow w) A l) (rb : RwsR (PRow w) B l') :
    Gives Tryd.prog 18 #[.slice A l.length k, .slice B l'.length j] w (.bool t) := by
  have RA := Lib.hid ra
  have RB := Lib.hid rb
  have HT := Lib.hid ht
  have hlen := hs.1
  have HO := Lib.hid hs.2
  clear ra rb ht hs
  unfold Gives
  by_cases hmm : l.length = l'.length
  · have HM := Lib.hid hmm
    rw [← hmm]
    clear hmm
    go_enter Tryd.func18, Tryd.ntmps18
    go_wp2
    go_loopw [5] (fun i wr => EqR4 w l l' i wr) (fun i _ => l.length - (intOf i).toNat)
    case atStart => exact ⟨0, Nat.zero_le _, rfl, Grew.refl w, rfl⟩
    case round =>
      obtain ⟨i, hi, rfl, hg, hk⟩ := hrel
      have HG := Lib.hid hg
      have HK := Lib.hid hk
      clear hg hk
      by_cases h : i < l.length
      · have h2 : i < l'.length := by rw [← HM.out]; exact h
        obtain ⟨b, o, PA, ka, rfl, hb, c0, _, hva⟩ := rwsR_at (RA.out.grew HG.out) h
        obtain ⟨b', o', PB, kb, rfl, hb', d0, _, hvb⟩ := rwsR_at (RB.out.grew HG.out) h2
        have hlx := (HO.out _ (List.getElem_mem h)).1
        have HN : Hid (l[i] = l'[i] → l.take (i + 1) = l'.take (i + 1)) := Lib.hid fun q => take_eq HK.out h h2 q
        have HF : Hid (¬ l[i] = l'[i] → t = false) := Lib.hid fun q => not_of HT.out (by
          intro e
          subst e
          exact q rfl)
        obtain ⟨ts, hts⟩ := some_of (l[i] = l'[i])
        have HC : Hid (∀ x, Gives Tryd.prog 12 #[.slice PA l[i].length ka, .slice PB l'[i].length kb] (more wr x) (.bool ts)) := Lib.hid fun x => rsameRow_any _ _ PA PB ka kb hlx ts hts _ (hva.grew ((Grew.refl wr).more x)) (hvb.grew ((Grew.refl wr).more x))
        have HTS := Lib.hid hts
        clear hts HT HK hva hvb
        generalize l[i] = x at *
        generalize l'[i] = y at *
        go_upto_region 6 with fail
        refine wp_region_more (by kernel_rfl) (by kernel_rfl) ?_
        repeat (go_big_quiet_step (((first | (go_at_call 12; exact (HC.out _).within)))))
        refine wpQuiet_nil ?_
        rintro _ ⟨z, rfl⟩
        cases ts
        · obtain rfl := HF.out fun e => by have := HTS.out.2 e; cases this
          go_wp2
          go_ret
          exact ⟨rfl, HG.out.more z⟩
        · go_wp2
          exact ⟨⟨i + 1, by omega, by go_num, HG.out.more z, HN.out (HTS.out.1 rfl)⟩, by simp only [intOf]; omega⟩
      · obtain rfl : i = l.length := by omega
        have ht : t = true := HT.out.2 (by
          have := HK.out
          rwa [List.take_length, List.take_of_length_le (Nat.le_of_eq HM.out.symm)] at this)
        subst ht
        go_wp2
        go_ret
        exact ⟨rfl, HG.out⟩
  · have e0 : ((l.length : Int) != (l'.length : Int)) = true := by rw [bne_iff_ne]; omega
    obtain rfl := not_of HT.out (fun e => hmm (by rw [e]))
    go_enter Tryd.func18, Tryd.ntmps18
    go_wp2
    go_ret
    exact ⟨rfl, by (show Grew _ _; repeat (first | exact Grew.refl _ | refine Grew.alloc ?_ _ | refine Grew.drew ?_ | refine Grew.more ?_ _))⟩
end Go.Proofs.YtklhledcnijchaaDoor
