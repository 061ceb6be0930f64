/- Layer 8: expressions that are the same, by the program. Condition: expressions that lie in memory that is there. -/
import Derived.Test.YtcokhgomibimcaaTree2
namespace Go.Proofs.Ytcokhgomibimcaa
open Go.RowKit
attribute [local go_sem] more_cell more_frozen more_more more_setCell more_of_drew more_of_drewN lt_more le_more past_cell past_cell2 past_frozen past_frozen2 past_setCell past_setCell2 mid_cell mid_frozen mid_setCell
attribute [local go_sem ↓] Go.wp_at_zero Go.wp_at_succ
@[go_sem] theorem run_store_func {P : Program} (w : World) (a : Addr) (m : Mode) (fn : Fn) (fi ca : Array Value) : (store a (.func fn fi ca) m).run P w = stored P w a (.func fn fi ca) m := run_store P w a _ m rfl
def EqAt (w : World) (l m : List Ex) (i : Value) (wr : World) : Prop := ∃ j : Nat, j ≤ l.length ∧ i = .int .i64 j ∧ Grew w wr ∧ l.take j = m.take j
theorem some_zero_ex : True := trivial
set_option maxHeartbeats 2000000 in
set_option maxRecDepth 100000 in
theorem eqf_rec (g : Nat) (l l' : List Ex) (A B : Option Addr) (k j m m' : Nat) (hm : l.length = m) (hm' : l'.length = m') (hs : m ≤ 1000000) (t : Bool) (ht : t = true ↔ l = l') (w : World)
    (ih : ∀ (a b : Ex), a ∈ l → ∀ (A B : Option Addr) (k j : Nat) (t : Bool), (t = true ↔ a = b) → ∀ W, Grew w W → ExsR (PRow W) A a.l → ExsR (PRow W) B b.l → Gives Try.prog 114 #[exV a A k, exV b B j, .pointer (some ⟨g, 0, none⟩)] W (.bool t))
    (ra : ExsR (PRow w) A l) (rb : ExsR (PRow w) B l') :
    Gives Try.prog 115 #[.slice A m k, .slice B m' j, .func (.func 114) #[] #[.pointer (some ⟨g, 0, none⟩)]] w (.bool t) := by
  have RA := Lib.hid ra
  have RB := Lib.hid rb
  have HT := Lib.hid ht
  have HI := Lib.hid ih
  have HM := Lib.hid hm
  have HM' := Lib.hid hm'
  clear ra rb ht ih hm hm'
  unfold Gives
  by_cases hmm : m = m'
  · subst hmm
    have e0 : ((m : Int) != (m : Int)) = false := by simp
    go_enter Try.func115, Try.ntmps115
    go_upto_region 3 with fail
    clear e0
    go_wp2
    go_loopw [17] (fun i wr => EqAt w l l' i wr) (fun i _ => m - (intOf i).toNat)
    case atStart => exact ⟨0, Nat.zero_le _, rfl, by (show Grew _ _; repeat (first | exact Grew.refl _ | refine Grew.alloc ?_ _ | refine Grew.drew ?_ | refine Grew.more ?_ _)), rfl⟩
    case round =>
      obtain ⟨i, hi, rfl, hg, hk⟩ := hrel
      rw [HM.out] at hi
      have HG := Lib.hid hg
      have HK := Lib.hid hk
      clear hg hk
      by_cases h : i < m
      · have h1 : i < l.length := by rw [HM.out]; exact h
        have h2 : i < l'.length := by rw [HM'.out]; exact h
        obtain ⟨ba, oa, PA, ka, rfl, hpa, h9⟩ := exsR_nine RA.out h1
        obtain ⟨bb, ob, PB, kb, rfl, hpb, h9'⟩ := exsR_nine RB.out h2
        obtain ⟨t2, ht2⟩ := some_bool (l[i] = l'[i])
        have HC : Hid (∀ W, Grew w W → Gives Try.prog 114 #[exV l[i] PA ka, exV l'[i] PB kb, .pointer (some ⟨g, 0, none⟩)] W (.bool t2)) := Lib.hid fun W hW => HI.out _ _ (List.getElem_mem h1) _ _ _ _ t2 ht2 W hW (hpa.grew hW) (hpb.grew hW)
        have HN : Hid (t2 = true → l.take (i + 1) = l'.take (i + 1)) := Lib.hid fun q => take_same HK.out h1 h2 (ht2.1 q)
        have HF : Hid (t2 = false → t = false) := Lib.hid fun q => not_true HT.out (by
          intro e
          subst e
          have := ht2.2 rfl
          rw [q] at this
          cases this)
        obtain ⟨p0, a0, a1, a2, a3, a4, a5, a6, a7, a8⟩ := h9.grew HG.out
        obtain ⟨p1, d0, d1, d2, d3, d4, d5, d6, d7, d8⟩ := h9'.grew HG.out
        clear h9 h9' hpa hpb ht2 HI HT HK
        generalize l[i] = x at *
        generalize l'[i] = y at *
        clear h1 h2
        unfold exV at HC
        go_upto_region 8 with (go_at_call 114; (with_reducible refine (HC.out _ ((HG.out.alloc _).alloc _)).grows.mono ?_); rintro e w2 ⟨rfl, hg2⟩; have HG2 := Lib.hid (((HG.out.alloc _).alloc _).trans hg2); clear hg2)
        · have e2 : t2 = false := by first | assumption | simp_all
          obtain rfl := HF.out e2
          go_wp2
          go_ret
          exact ⟨rfl, HG2.out⟩
        · have e2 : t2 = true := by first | assumption | simp_all
          go_wp2
          exact ⟨⟨i + 1, by rw [HM.out]; omega, by go_num, HG2.out, HN.out e2⟩, by simp only [intOf]; omega⟩
      · obtain rfl : i = m := by omega
        have ht : t = true := HT.out.2 (by
          have := HK.out
          rw [List.take_of_length_le (Nat.le_of_eq HM.out), List.take_of_length_le (Nat.le_of_eq HM'.out)] at this
          exact this)
        subst ht
        go_wp2
        go_ret
        exact ⟨rfl, HG.out⟩
  · have e0 : ((m : Int) != (m' : Int)) = true := by rw [bne_iff_ne]; omega
    have hf : t = false := not_true HT.out (fun e => hmm (by rw [← HM.out, ← HM'.out, e]))
    subst hf
    go_enter Try.func115, Try.ntmps115
    go_wp2
    go_ret
    exact ⟨rfl, by (show Grew _ _; repeat (first | exact Grew.refl _ | refine Grew.alloc ?_ _ | refine Grew.drew ?_ | refine Grew.more ?_ _))⟩
set_option maxHeartbeats 2000000 in
set_option maxRecDepth 100000 in
theorem eqf_same (l l' : List Ex) (A B : Option Addr) (k j m m' : Nat) (hm : l.length = m) (hm' : l'.length = m') (hs : m ≤ 1000000) (t : Bool) (ht : t = true ↔ l = l') (w : World)
    (ih : ∀ (a b : Ex), a ∈ l → ∀ (A B : Option Addr) (k j : Nat) (t : Bool), (t = true ↔ a = b) → ∀ W, Grew w W → ExsR (PRow W) A a.l → ExsR (PRow W) B b.l → Gives Try.prog 45 #[exV a A k, exV b B j] W (.bool t))
    (ra : ExsR (PRow w) A l) (rb : ExsR (PRow w) B l') :
    Gives Try.prog 115 #[.slice A m k, .slice B m' j, .func (.func 45) #[] #[]] w (.bool t) := by
  have RA := Lib.hid ra
  have RB := Lib.hid rb
  have HT := Lib.hid ht
  have HI := Lib.hid ih
  have HM := Lib.hid hm
  have HM' := Lib.hid hm'
  clear ra rb ht ih hm hm'
  unfold Gives
  by_cases hmm : m = m'
  · subst hmm
    have e0 : ((m : Int) != (m : Int)) = false := by simp
    go_enter Try.func115, Try.ntmps115
    go_upto_region 3 with fail
    clear e0
    go_wp2
    go_loopw [17] (fun i wr => EqAt w l l' i wr) (fun i _ => m - (intOf i).toNat)
    case atStart => exact ⟨0, Nat.zero_le _, rfl, by (show Grew _ _; repeat (first | exact Grew.refl _ | refine Grew.alloc ?_ _ | refine Grew.drew ?_ | refine Grew.more ?_ _)), rfl⟩
    case round =>
      obtain ⟨i, hi, rfl, hg, hk⟩ := hrel
      rw [HM.out] at hi
      have HG := Lib.hid hg
      have HK := Lib.hid hk
      clear hg hk
      by_cases h : i < m
      · have h1 : i < l.length := by rw [HM.out]; exact h
        have h2 : i < l'.length := by rw [HM'.out]; exact h
        obtain ⟨ba, oa, PA, ka, rfl, hpa, h9⟩ := exsR_nine RA.out h1
        obtain ⟨bb, ob, PB, kb, rfl, hpb, h9'⟩ := exsR_nine RB.out h2
        obtain ⟨t2, ht2⟩ := some_bool (l[i] = l'[i])
        have HC : Hid (∀ W, Grew w W → Gives Try.prog 45 #[exV l[i] PA ka, exV l'[i] PB kb] W (.bool t2)) := Lib.hid fun W hW => HI.out _ _ (List.getElem_mem h1) _ _ _ _ t2 ht2 W hW (hpa.grew hW) (hpb.grew hW)
        have HN : Hid (t2 = true → l.take (i + 1) = l'.take (i + 1)) := Lib.hid fun q => take_same HK.out h1 h2 (ht2.1 q)
        have HF : Hid (t2 = false → t = false) := Lib.hid fun q => not_true HT.out (by
          intro e
          subst e
          have := ht2.2 rfl
          rw [q] at this
          cases this)
        obtain ⟨p0, a0, a1, a2, a3, a4, a5, a6, a7, a8⟩ := h9.grew HG.out
        obtain ⟨p1, d0, d1, d2, d3, d4, d5, d6, d7, d8⟩ := h9'.grew HG.out
        clear h9 h9' hpa hpb ht2 HI HT HK
        generalize l[i] = x at *
        generalize l'[i] = y at *
        clear h1 h2
        unfold exV at HC
        go_upto_region 8 with (go_at_call 45; (with_reducible refine (HC.out _ ((HG.out.alloc _).alloc _)).grows.mono ?_); rintro e w2 ⟨rfl, hg2⟩; have HG2 := Lib.hid (((HG.out.alloc _).alloc _).trans hg2); clear hg2)
        · have e2 : t2 = false := by first | assumption | simp_all
          obtain rfl := HF.out e2
          go_wp2
          go_ret
          exact ⟨rfl, HG2.out⟩
        · have e2 : t2 = true := by first | assumption | simp_all
          go_wp2
          exact ⟨⟨i + 1, by rw [HM.out]; omega, by go_num, HG2.out, HN.out e2⟩, by simp only [intOf]; omega⟩
      · obtain rfl : i = m := by omega
        have ht : t = true := HT.out.2 (by
          have := HK.out
          rw [List.take_of_length_le (Nat.le_of_eq HM.out), List.take_of_length_le (Nat.le_of_eq HM'.out)] at this
          exact this)
        subst ht
        go_wp2
        go_ret
        exact ⟨rfl, HG.out⟩
  · have e0 : ((m : Int) != (m' : Int)) = true := by rw [bne_iff_ne]; omega
    have hf : t = false := not_true HT.out (fun e => hmm (by rw [← HM.out, ← HM'.out, e]))
    subst hf
    go_enter Try.func115, Try.ntmps115
    go_wp2
    go_ret
    exact ⟨rfl, by (show Grew _ _; repeat (first | exact Grew.refl _ | refine Grew.alloc ?_ _ | refine Grew.drew ?_ | refine Grew.more ?_ _))⟩
end Go.Proofs.Ytcokhgomibimcaa
