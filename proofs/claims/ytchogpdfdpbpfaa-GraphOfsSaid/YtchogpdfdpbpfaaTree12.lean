/- Layer 8: any two lists of expressions, one by one the same. Condition: expressions that lie in memory that is there. -/
import Derived.Test.YtchogpdfdpbpfaaTree11
namespace Go.Proofs.Ytchogpdfdpbpfaa
open Go.RowKit
attribute [local go_sem] more_cell more_frozen more_more more_setCell more_of_drew more_of_drewN lt_more le_more past_cell past_cell2 past_frozen past_frozen2 past_setCell past_setCell2 mid_cell mid_frozen mid_setCell
attribute [local go_sem ↓] Go.wp_at_zero Go.wp_at_succ

def RAllAt (w : World) (l m : List Ex) (i : Value) (wr : World) : Prop := ∃ j : Nat, j ≤ l.length ∧ i = .int .i64 j ∧ Grew w wr ∧ l.take j = m.take j
theorem rall_len (l l' : List Ex) (A B : Option Addr) (k j : Nat) (h : l.length ≠ l'.length) (w : World) :
    Gives Try.prog 18 #[.slice A l.length k, .slice B l'.length j] w (.bool false) := by
  have e1 : ((l.length : Int) != (l'.length : Int)) = true := by rw [bne_iff_ne]; omega
  unfold Gives
  clear h
  go_enter Try.func18, Try.ntmps18
  go_wp2
  go_ret
  exact ⟨rfl, by (show Grew _ _; repeat (first | exact Grew.refl _ | refine Grew.alloc ?_ _ | refine Grew.drew ?_ | refine Grew.more ?_ _))⟩
set_option maxHeartbeats 1000000 in
theorem rall_list (l l' : List Ex) (A B : Option Addr) (k j m : Nat) (hm : l.length = m) (hm' : l'.length = m) (hs : m ≤ 1000000) (t : Bool) (ht : t = true ↔ l = l') (hn : ∀ y ∈ l, y.nodes ≤ 1000000)
    (w : World) (ra : ExsR (PRow w) A l) (rb : ExsR (PRow w) B l') :
    Gives Try.prog 18 #[.slice A m k, .slice B m j] w (.bool t) := by
  have RA := Lib.hid ra
  have RB := Lib.hid rb
  have HT := Lib.hid ht
  have HI := Lib.hid hn
  have HM := Lib.hid hm
  have HM' := Lib.hid hm'
  clear ra rb ht hn hm hm'
  unfold Gives
  go_enter Try.func18, Try.ntmps18
  go_wp2
  go_loopw [5] (fun i wr => RAllAt w l l' i wr) (fun i _ => m - (intOf i).toNat)
  case atStart => exact ⟨0, Nat.zero_le _, rfl, by (show Grew _ _; repeat (first | exact Grew.refl _ | refine Grew.alloc ?_ _ | refine Grew.drew ?_ | refine Grew.more ?_ _)), rfl⟩
  case round =>
    obtain ⟨i, hi, rfl, hg, hk⟩ := hrel
    rw [HM.out] at hi
    have HG := Lib.hid hg
    have HK := Lib.hid hk
    clear hg hk
    by_cases h : i < m
    · have h1 : i < l.length := by rw [HM.out]; exact h
      have h2 : i < l'.length := by rw [HM'.out]; exact h
      obtain ⟨ba, oa, PA, ka, rfl, hpa, h9⟩ := exsR_nine RA.out h1
      obtain ⟨bb, ob, PB, kb, rfl, hpb, h9'⟩ := exsR_nine RB.out h2
      obtain ⟨t2, ht2⟩ := some_bool (l[i] = l'[i])
      have HC : Hid (∀ W, Grew w W → Gives Try.prog 48 #[exV l[i] PA ka, exV l'[i] PB kb] W (.bool t2)) := Lib.hid fun W hW => rsame_ex 1000000 (by omega) _ _ (HI.out _ (List.getElem_mem h1)) _ _ _ _ t2 ht2 W (hpa.grew hW) (hpb.grew hW)
      have HN : Hid (t2 = true → l.take (i + 1) = l'.take (i + 1)) := Lib.hid fun q => take_same HK.out h1 h2 (ht2.1 q)
      have HF : Hid (t2 = false → t = false) := Lib.hid fun q => not_true HT.out (by
        intro e
        subst e
        have := ht2.2 rfl
        rw [q] at this
        cases this)
      obtain ⟨p0, a0, a1, a2, a3, a4, a5, a6, a7, a8⟩ := h9.grew HG.out
      obtain ⟨p1, d0, d1, d2, d3, d4, d5, d6, d7, d8⟩ := h9'.grew HG.out
      clear h9 h9' hpa hpb ht2 HI HT HK
      generalize l[i] = x at *
      generalize l'[i] = y at *
      clear h1 h2
      unfold exV at HC
      go_wp2
      refine wp_region_more (by kernel_rfl) (by kernel_rfl) ?_
      repeat (go_big_quiet_step (((go_at_call 48; exact (HC.out _ (HG.out.more _)).within))))
      refine wpQuiet_nil ?_
      rintro _ ⟨z, rfl⟩
      cases t2
      · obtain rfl := HF.out rfl
        go_wp2
        go_ret
        exact ⟨rfl, (HG.out.more _)⟩
      · go_wp2
        exact ⟨⟨i + 1, by rw [HM.out]; omega, by go_num, HG.out.more _, HN.out rfl⟩, by simp only [intOf]; omega⟩
    · obtain rfl : i = m := by omega
      have ht : t = true := HT.out.2 (by
        have := HK.out
        rw [List.take_of_length_le (Nat.le_of_eq HM.out), List.take_of_length_le (Nat.le_of_eq HM'.out)] at this
        exact this)
      subst ht
      go_wp2
      go_ret
      exact ⟨rfl, HG.out⟩
/-- The document's SameAll. -/
theorem rall_any (l l' : List Ex) (A B : Option Addr) (k j : Nat) (hs : l.length ≤ 1000000) (t : Bool) (ht : t = true ↔ l = l') (hn : ∀ y ∈ l, y.nodes ≤ 1000000) (w : World) (ra : ExsR (PRow w) A l) (rb : ExsR (PRow w) B l') :
    Gives Try.prog 18 #[.slice A l.length k, .slice B l'.length j] w (.bool t) := by
  by_cases h : l.length = l'.length
  · rw [← h]
    exact rall_list l l' A B k j l.length rfl h.symm hs t ht hn w ra rb
  · have hf : t = false := not_true ht (fun e => h (by rw [e]))
    subst hf
    exact rall_len l l' A B k j h w
end Go.Proofs.Ytchogpdfdpbpfaa
