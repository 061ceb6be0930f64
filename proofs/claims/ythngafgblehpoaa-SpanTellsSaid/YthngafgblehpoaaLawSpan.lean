/- Layer 19: the law of what was added. Condition: values that lie in memory that is there. -/
import Derived.Test.YthngafgblehpoaaSpan4
import Derived.Deep.DeepCutAuto
namespace Go.Proofs.Ythngafgblehpoaa
open Go.RowKit
attribute [local go_sem] more_cell more_frozen more_more more_setCell more_of_drew more_of_drewN lt_more le_more past_cell past_cell2 past_frozen past_frozen2 past_setCell past_setCell2 mid_cell mid_frozen mid_setCell
attribute [local go_sem ↓] Go.wp_at_zero Go.wp_at_succ

def KeepAt (u : World) (T : TypeId) (s : S) (g n : Nat) (i : Value) (wr : World) : Prop := ∃ j : Nat, j ≤ n ∧ i = .int .i64 j ∧ Grew u wr ∧ Blok wr g T (sc s)
theorem two_rows (w : World) (A B : Option Addr) (c d : Nat) (a b : List V) (T : TypeId) (ha : VRow w A a) (hb : VRow w B b) (g : Nat) (hg : g = w.heap.size) :
    Rws (w.alloc (.cells #[.slice A a.length c, .slice B b.length d] T)) (some ⟨g, 0, none⟩) [⟨A, c, a⟩, ⟨B, d, b⟩] := by
  refine ⟨row_new w T g #[.slice A a.length c, .slice B b.length d] hg, fun r hr => ?_⟩
  simp only [List.mem_cons, List.not_mem_nil, or_false] at hr
  rcases hr with rfl | rfl
  · exact ha.grew ((Grew.refl w).alloc _)
  · exact hb.grew ((Grew.refl w).alloc _)
theorem much_two (rs : List Rw) (A : Option Addr) (n c : Nat) (hn : rs.length = n) (hl : n ≤ 1000000) (w : World) (hr : Rws w A rs) (hm : ∀ r ∈ rs, r.l.length ≤ maxLen) : Calls Try.prog 28 #[.slice A n c] w (MuchV rs w) := by
  subst hn
  exact much_val rs A c hl w hr hm
set_option maxHeartbeats 4000000 in
theorem spanKeeps_walk (a b : List V) (A B : Option Addr) (c d : Nat) (ha : a.length ≤ maxLen) (hb : b.length ≤ maxLen) (w : World) (ra : VRow w A a) (rb : VRow w B b) :
    Gives Try.prog 7 #[.slice A a.length c, .slice B b.length d] w (.bool true) := by
  unfold Gives
  have RA := Lib.hid ra
  have RB := Lib.hid rb
  have HLA := Lib.hid ha
  have HLB := Lib.hid hb
  clear ra rb ha hb
  go_enter Try.func7, Try.ntmps7
  go_wp2_with fail
  refine (much_two [⟨A, c, a⟩, ⟨B, d, b⟩] _ _ _ rfl (by simp) _ (two_rows w A B c d a b _ RA.out RB.out _ rfl) (by intro r hr; simp only [List.mem_cons, List.not_mem_nil, or_false] at hr; rcases hr with rfl | rfl; exact HLA.out; exact HLB.out)).mono ?_
  rintro e w1 ⟨t, rfl, rfl, ht⟩
  cases t
  rotate_left
  · clear ht
    go_wp2_with (first | (go_at_call 29; refine (live19_any _).mono ?_; rintro e w' ⟨rfl, x, rfl⟩))
    go_ret
    exact ⟨rfl, by (show Grew _ _; repeat (first | exact Grew.refl _ | refine Grew.alloc ?_ _ | refine Grew.drew ?_ | refine Grew.more ?_ _))⟩
  · have hla : a.length ≤ 40 := ht rfl ⟨A, c, a⟩ (by simp)
    have hlb : b.length ≤ 40 := ht rfl ⟨B, d, b⟩ (by simp)
    clear ht
    have hS1 : ∃ s, addS zeroS a = s := ⟨_, rfl⟩
    have hS2 : ∃ s, addS zeroS (a ++ b) = s := ⟨_, rfl⟩
    obtain ⟨s, hs⟩ := hS2
    obtain ⟨r, hr⟩ := hS1
    have hF1 : ∀ j, j ≤ a.length → fewS (addS zeroS (a.take j)) := fewS_take [] a (by simp; omega)
    have hF2 : ∀ j, j ≤ b.length → fewS (addS r (b.take j)) := by rw [← hr]; exact fewS_take a b (by omega)
    have hrs : addS r b = s := by rw [← hr, addS_append, hs]
    have hHas : ∀ v, v ∈ a ++ b → hasS s v = true := fun v hv => by rw [← hs]; exact hasS_mem _ _ hv
    clear hs
    obtain ⟨⟨lk, li, ls⟩, ⟨hk, hi, hs⟩, wh, nu⟩ := s
    obtain ⟨⟨rlk, rli, rls⟩, ⟨rhk, rhi, rhs⟩, rwh, rnu⟩ := r
    have HA1 : Hid (∀ W, VRow W A a → Calls Try.prog 31 #[.agg #[.int .i64 0, .int .i64 0, .string ⟨#[]⟩, .int .i64 0, .int .i64 0, .string ⟨#[]⟩, .int .i64 0, .int .i64 0], .slice A a.length c] W fun e w' => e = .returned (.agg #[.int .i64 rlk, .int .i64 rli, .string rls, .int .i64 rhk, .int .i64 rhi, .string rhs, .int .i64 rwh, .int .i64 rnu]) ∧ ∃ z, w' = more W z) := Lib.hid fun W hW => add_to zeroS _ a A _ c rfl (by omega) hF1 W hW hr
    have HA2 : Hid (∀ W, VRow W B b → Calls Try.prog 31 #[.agg #[.int .i64 rlk, .int .i64 rli, .string rls, .int .i64 rhk, .int .i64 rhi, .string rhs, .int .i64 rwh, .int .i64 rnu], .slice B b.length d] W fun e w' => e = .returned (.agg #[.int .i64 lk, .int .i64 li, .string ls, .int .i64 hk, .int .i64 hi, .string hs, .int .i64 wh, .int .i64 nu]) ∧ ∃ z, w' = more W z) := Lib.hid fun W hW => add_to _ _ b B _ d rfl (by omega) hF2 W hW hrs
    have HH : Hid (∀ k i x, (⟨k, i, x⟩ : V) ∈ a ++ b → ∀ W, Gives Try.prog 36 #[.agg #[.int .i64 lk, .int .i64 li, .string ls, .int .i64 hk, .int .i64 hi, .string hs, .int .i64 wh, .int .i64 nu], .agg #[.int .i64 k, .int .i64 i, .string x]] W (.bool true)) := Lib.hid fun k i x hv W => has_to ⟨⟨lk, li, ls⟩, ⟨hk, hi, hs⟩, wh, nu⟩ ⟨k, i, x⟩ true (hHas _ hv) W
    clear hF1 hF2 hrs hHas hr HLA HLB
    go_upto_region 3 with fail
    go_cut [5] (fun p wx => ∃ g, p = .pointer (some ⟨g, 0, none⟩) ∧ Blok wx g 50 (sc ⟨⟨lk, li, ls⟩, ⟨hk, hi, hs⟩, wh, nu⟩) ∧ Grew w wx)
    case first =>
      go_wp2_with (first | (go_at_call_of 31 (Value.slice A a.length c); (with_reducible refine (HA1.out _ (by exact RA.out.grew (by (show Grew _ _; repeat (first | exact Grew.refl _ | refine Grew.alloc ?_ _ | refine Grew.drew ?_ | refine Grew.more ?_ _))))).mono ?_); rintro e w' ⟨rfl, x1, rfl⟩) | (go_at_call_of 31 (Value.slice B b.length d); (with_reducible refine (HA2.out _ (by exact RB.out.grew (by (show Grew _ _; repeat (first | exact Grew.refl _ | refine Grew.alloc ?_ _ | refine Grew.drew ?_ | refine Grew.more ?_ _))))).mono ?_); rintro e w' ⟨rfl, x2, rfl⟩))
      go_meet
      exact ⟨_, rfl, Blok.new _ _ _ _ rfl, by (show Grew _ _; repeat (first | exact Grew.refl _ | refine Grew.alloc ?_ _ | refine Grew.drew ?_ | refine Grew.more ?_ _))⟩
    case rest =>
      obtain ⟨g, rfl, hB, hG⟩ := hcut
      have HB := Lib.hid hB
      have HG := Lib.hid hG
      clear hB hG
      go_wp2
      go_loopw [6] (fun i wr => KeepAt w 50 ⟨⟨lk, li, ls⟩, ⟨hk, hi, hs⟩, wh, nu⟩ g a.length i wr) (fun i _ => a.length - (intOf i).toNat)
      case atStart => exact ⟨0, Nat.zero_le _, rfl, HG.out, HB.out⟩
      case round =>
        obtain ⟨j, hj, rfl, hg, hb⟩ := hrel
        by_cases h : j < a.length
        · obtain ⟨b0, o0, rfl⟩ := vrow_some RA.out h
          obtain ⟨hb0, d0, d1, d2⟩ := vrow_cells (RA.out.grew hg) h rfl
          have hv : a[j] ∈ a ++ b := List.mem_append_left _ (List.getElem_mem h)
          have HV := Lib.hid hv
          clear hv
          generalize a[j] = v at *
          obtain ⟨k, i, x⟩ := v
          have c0 := hb.cell 0
          have c1 := hb.cell 1
          have c2 := hb.cell 2
          have c3 := hb.cell 3
          have c4 := hb.cell 4
          have c5 := hb.cell 5
          have c6 := hb.cell 6
          have c7 := hb.cell 7
          have hgl := hb.lt
          simp [sc] at c0 c1 c2 c3 c4 c5 c6 c7
          have HG2 := Lib.hid hg
          have HB2 := Lib.hid hb
          clear hg hb
          go_wp2
          refine wp_region_more (by kernel_rfl) (by kernel_rfl) ?_
          repeat (go_big_quiet_step ((first | (go_at_call 36; exact (HH.out _ _ _ HV.out _).within) | (go_at_call 36; exact (HH.out _ _ _ HV.out _).inside))))
          refine wpQuiet_nil ?_
          rintro _ ⟨z, rfl⟩
          go_wp2
          refine ⟨⟨j + 1, by omega, by go_num, HG2.out.more _, HB2.out.more _⟩, by simp only [intOf]; omega⟩
        · obtain rfl : j = a.length := by omega
          have HG2 := Lib.hid hg
          have HB2 := Lib.hid hb
          clear hg hb
          go_wp2
          go_loopw [7] (fun i wr => KeepAt w 50 ⟨⟨lk, li, ls⟩, ⟨hk, hi, hs⟩, wh, nu⟩ g b.length i wr) (fun i _ => b.length - (intOf i).toNat)
          case atStart => exact ⟨0, Nat.zero_le _, rfl, HG2.out, HB2.out⟩
          case round =>
            obtain ⟨j, hj, rfl, hg, hb⟩ := hrel
            by_cases h : j < b.length
            · obtain ⟨b0, o0, rfl⟩ := vrow_some RB.out h
              obtain ⟨hb0, d0, d1, d2⟩ := vrow_cells (RB.out.grew hg) h rfl
              have hv : b[j] ∈ a ++ b := List.mem_append_right _ (List.getElem_mem h)
              have HV := Lib.hid hv
              clear hv
              generalize b[j] = v at *
              obtain ⟨k, i, x⟩ := v
              have c0 := hb.cell 0
              have c1 := hb.cell 1
              have c2 := hb.cell 2
              have c3 := hb.cell 3
              have c4 := hb.cell 4
              have c5 := hb.cell 5
              have c6 := hb.cell 6
              have c7 := hb.cell 7
              have hgl := hb.lt
              simp [sc] at c0 c1 c2 c3 c4 c5 c6 c7
              have HG2 := Lib.hid hg
              have HB2 := Lib.hid hb
              clear hg hb
              go_wp2
              refine wp_region_more (by kernel_rfl) (by kernel_rfl) ?_
              repeat (go_big_quiet_step ((first | (go_at_call 36; exact (HH.out _ _ _ HV.out _).within) | (go_at_call 36; exact (HH.out _ _ _ HV.out _).inside))))
              refine wpQuiet_nil ?_
              rintro _ ⟨z, rfl⟩
              go_wp2
              refine ⟨⟨j + 1, by omega, by go_num, HG2.out.more _, HB2.out.more _⟩, by simp only [intOf]; omega⟩
            · obtain rfl : j = b.length := by omega
              have HG3 := Lib.hid hg
              clear hb
              go_wp2_with (first | (go_at_call 29; refine (live19_any _).mono ?_; rintro e w6 ⟨rfl, x6, rfl⟩))
              go_ret
              exact ⟨rfl, HG3.out.more _⟩
end Go.Proofs.Ythngafgblehpoaa
