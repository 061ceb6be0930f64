/- Layer 19: values added one by one, and the document's own ends of values. Condition: not more than a million values. -/
import Derived.Test.YtpcbnmpfiepaeaaDoorSpan
import Derived.Test.YtpcbnmpfiepaeaaDoorApp
namespace Go.Proofs.YtpcbnmpfiepaeaaDoor
open Go.RowKit
attribute [local go_sem] more_cell more_frozen more_more more_setCell more_of_drew more_of_drewN lt_more le_more past_cell past_cell2 past_frozen past_frozen2 past_setCell past_setCell2 mid_cell mid_frozen mid_setCell
attribute [local go_sem ↓] Go.wp_at_zero Go.wp_at_succ

theorem mid_join (w : World) (x z : Xs) (o : Obj) : more ((more w x).alloc o) z = more w ((x.join ⟨#[o], x.drawn⟩).join z) := by
  rw [more_alloc, more_more, more_more, Xs.join_join]
  rfl
/-- Values that lie one behind the other. -/
def VRow (w : World) (A : Option Addr) (l : List V) : Prop := Grid w A 3 (l.map vc)
theorem vrow_some {w : World} {A : Option Addr} {l : List V} {k : Nat} (h : VRow w A l) (hk : k < l.length) : ∃ b o, A = some ⟨b, o, none⟩ := by
  obtain ⟨b, o, hA, _⟩ := Grid.at_ h (k := k) (by simpa using hk)
  exact ⟨b, o, hA⟩
theorem vrow_cells {w : World} {b o : Nat} {l : List V} {k : Nat} {v : V} (h : VRow w (some ⟨b, o, none⟩) l) (hk : k < l.length) (hv : l[k] = v) :
    b < w.heap.size ∧ w.cell? ⟨b, o + k * 3, none⟩ = some (.int .i64 v.k) ∧ w.cell? ⟨b, o + k * 3 + 1, none⟩ = some (.int .i64 v.i) ∧ w.cell? ⟨b, o + k * 3 + 2, none⟩ = some (.string v.s) := by
  subst hv
  obtain ⟨b', o', hA, hb, hc⟩ := Grid.at_ h (k := k) (by simpa using hk)
  injection hA with hA
  injection hA with e1 e2 _
  subst e1 e2
  refine ⟨hb, ?_, ?_, ?_⟩
  · have := hc 0 (.int .i64 l[k].k) (by simp [vc])
    simpa using this
  · have := hc 1 (.int .i64 l[k].i) (by simp [vc])
    rw [Nat.add_assoc]; exact this
  · have := hc 2 (.string l[k].s) (by simp [vc])
    rw [Nat.add_assoc]; exact this
theorem VRow.grew {w w' : World} {A : Option Addr} {l : List V} (h : VRow w A l) (g : Grew w w') : VRow w' A l := Grid.grew h g
def AddAt (w : World) (T : TypeId) (s : S) (l : List V) (i : Value) (wr : World) : Prop :=
  ∃ (j : Nat) (x : Xs), j ≤ l.length ∧ i = .int .i64 j ∧ wr = more ((w.alloc (.cells (sc (addS s (l.take j))) T)).alloc (.cells (sc zeroS) T)) x
set_option maxHeartbeats 2000000 in
theorem add_val (s : S) (l : List V) (A : Option Addr) (c : Nat) (hl : l.length ≤ 1000000) (hf : ∀ j, j ≤ l.length → fewS (addS s (l.take j))) (w : World) (hr : VRow w A l) :
    Gives Tryd.prog 36 #[sa s, .slice A l.length c] w (sa (addS s l)) := by
  unfold Gives
  have HR := Lib.hid hr
  have HF := Lib.hid hf
  clear hr hf
  show Calls Tryd.prog 36 #[.agg #[.int .i64 s.low.k, .int .i64 s.low.i, .string s.low.s, .int .i64 s.high.k, .int .i64 s.high.i, .string s.high.s, .int .i64 s.whole, .int .i64 s.nulls], .slice A l.length c] w _
  go_enter Tryd.func36, Tryd.ntmps36
  go_wp2
  go_loopw [9] (fun i wr => AddAt w 50 s l i wr) (fun i _ => l.length - (intOf i).toNat)
  case atStart => exact ⟨0, ⟨#[], w.drawn⟩, Nat.zero_le _, rfl, (more_self _).symm⟩
  case round =>
    obtain ⟨j, x, hj, rfl, rfl⟩ := hrel
    by_cases h : j < l.length
    · obtain ⟨b, o, rfl⟩ := vrow_some HR.out h
      obtain ⟨hb, c0, c1, c2⟩ := vrow_cells HR.out h rfl
      have HS := Lib.hid (addS_take s l j h)
      have HG := Lib.hid (HF.out j hj)
      have HG1 := Lib.hid (HF.out (j + 1) h)
      have hb1 : b < w.heap.size + 1 := by omega
      have hb2 : b < w.heap.size + 1 + 1 := by omega
      generalize l[j] = v at *
      generalize addS s (l.take j) = t at *
      have HQF := Lib.hid (ofS_few v)
      obtain ⟨q, hq⟩ : ∃ q, ofS v = q := ⟨_, rfl⟩
      rw [hq] at HS HQF
      have HQ := Lib.hid hq
      clear hq
      obtain ⟨r, hr⟩ : ∃ r, unionS t q = r := ⟨_, rfl⟩
      rw [hr] at HS
      have HU := Lib.hid hr
      clear hr
      obtain ⟨vk, vi, vs⟩ := v
      obtain ⟨⟨lk, li, ls⟩, ⟨hk, hi, hs⟩, wh, nu⟩ := t
      obtain ⟨⟨qlk, qli, qls⟩, ⟨qhk, qhi, qhs⟩, qwh, qnu⟩ := q
      obtain ⟨⟨rlk, rli, rls⟩, ⟨rhk, rhi, rhs⟩, rwh, rnu⟩ := r
      have HO1 : Hid (∀ W, Gives Tryd.prog 58 #[.agg #[.int .i64 vk, .int .i64 vi, .string vs]] W (.agg #[.int .i64 qlk, .int .i64 qli, .string qls, .int .i64 qhk, .int .i64 qhi, .string qhs, .int .i64 qwh, .int .i64 qnu])) := Lib.hid fun W => of_to ⟨vk, vi, vs⟩ _ HQ.out W
      have HO2 : Hid (∀ W, Gives Tryd.prog 57 #[.agg #[.int .i64 lk, .int .i64 li, .string ls, .int .i64 hk, .int .i64 hi, .string hs, .int .i64 wh, .int .i64 nu], .agg #[.int .i64 qlk, .int .i64 qli, .string qls, .int .i64 qhk, .int .i64 qhi, .string qhs, .int .i64 qwh, .int .i64 qnu]] W (.agg #[.int .i64 rlk, .int .i64 rli, .string rls, .int .i64 rhk, .int .i64 rhi, .string rhs, .int .i64 rwh, .int .i64 rnu])) := Lib.hid fun W => union_to ⟨⟨lk, li, ls⟩, ⟨hk, hi, hs⟩, wh, nu⟩ _ _ HG.out HQF.out HU.out W
      simp only [sc] at *
      go_wp2
      refine wp_region_more_tail 4 (by kernel_rfl) (by kernel_rfl) ?_
      simp only [List.take_succ_cons, List.take_zero, List.drop_succ_cons, List.drop_zero]
      repeat (go_big_quiet_step ((first | (go_at_call 58; exact (HO1.out _).within) | (go_at_call 58; exact (HO1.out _).inside) | (go_at_call 57; exact (HO2.out _).within) | (go_at_call 57; exact (HO2.out _).inside))))
      refine wpQuiet_nil ?_
      rintro _ ⟨z, rfl⟩
      go_wp2
      refine ⟨⟨j + 1, _, by omega, by go_num, by rw [HS.out, mid_join]; rfl⟩, by simp only [intOf]; omega⟩
    · obtain rfl : j = l.length := by omega
      rw [List.take_length]
      obtain ⟨t, ht⟩ : ∃ t, addS s l = t := ⟨_, rfl⟩
      rw [ht]
      have HT := Lib.hid ht
      clear ht
      obtain ⟨⟨lk, li, ls⟩, ⟨hk, hi, hs⟩, wh, nu⟩ := t
      simp only [sc] at *
      go_wp2
      exact bodyPost_ret (v := .agg #[.int .i64 lk, .int .i64 li, .string ls, .int .i64 hk, .int .i64 hi, .string hs, .int .i64 wh, .int .i64 nu]) (by simp [results, Tryd.results36, go_sem]) rfl ⟨by rw [HT.out]; rfl, by (show Grew _ _; repeat (first | exact Grew.refl _ | refine Grew.alloc ?_ _ | refine Grew.drew ?_ | refine Grew.more ?_ _))⟩
end Go.Proofs.YtpcbnmpfiepaeaaDoor
