/- Layer 19: the document's own ends of values. Condition: texts that fit into memory. -/
import Derived.Test.YthngafgblehpoaaSpan4
import Derived.RegionTactic
namespace Go.Proofs.Ythngafgblehpoaa
open Go.RowKit
attribute [local go_sem] more_cell more_frozen more_more more_setCell more_of_drew more_of_drewN lt_more le_more past_cell past_cell2 past_frozen past_frozen2 past_setCell past_setCell2 mid_cell mid_frozen mid_setCell
attribute [local go_sem ↓] Go.wp_at_zero Go.wp_at_succ

theorem union_null (a : S) (hn : a.whole = 0 → a.low = zeroV ∧ a.high = zeroV) : unionS a ⟨zeroV, zeroV, 0, 1⟩ = ⟨a.low, a.high, a.whole, a.nulls + 1⟩ := by
  unfold unionS
  simp only
  by_cases h : a.whole = 0
  · obtain ⟨h1, h2⟩ := hn h
    rw [if_pos (Or.inl h), if_pos (Or.inl h), h1, h2, Int.add_zero]
  · rw [if_neg (by omega), if_neg (by omega), Int.add_zero]
theorem union_one (a : S) (v : V) : unionS a ⟨v, v, 1, 0⟩ = ⟨if a.whole = 0 ∨ ord v a.low < 0 then v else a.low, if a.whole = 0 ∨ 0 < ord v a.high then v else a.high, a.whole + 1, a.nulls⟩ := by
  unfold unionS
  simp
def EndsAt (w : World) (T : TypeId) (l : List V) (sv nv i : Value) (wr : World) : Prop :=
  ∃ (j : Nat) (x : Xs) (sb nb : Bool), j ≤ l.length ∧ i = .int .i64 j ∧ sv = .bool sb ∧ nv = .bool nb ∧ decide (0 < (addS zeroS (l.take j)).whole) = sb ∧ decide (0 < (addS zeroS (l.take j)).nulls) = nb ∧
    wr = more ((((w.alloc (.cells #[.int .i64 0, .int .i64 0, .string ⟨#[]⟩] T)).alloc (.cells #[.int .i64 0, .int .i64 0, .string ⟨#[]⟩] T)).alloc (.cells #[.int .i64 (addS zeroS (l.take j)).low.k, .int .i64 (addS zeroS (l.take j)).low.i, .string (addS zeroS (l.take j)).low.s] T)).alloc (.cells #[.int .i64 (addS zeroS (l.take j)).high.k, .int .i64 (addS zeroS (l.take j)).high.i, .string (addS zeroS (l.take j)).high.s] T)) x
theorem rorder_to (k i : Int) (s : ByteArray) (k' i' : Int) (s' : ByteArray) (x : Int) (hs : s.size ≤ maxLen) (hx : ordV k i s k' i' s' = x) (w : World) :
    Gives Try.prog 89 #[.agg #[.int .i64 k, .int .i64 i, .string s], .agg #[.int .i64 k', .int .i64 i', .string s']] w (.int .i64 x) := by
  subst hx
  exact rorder_any _ _ _ _ _ _ hs _
set_option maxHeartbeats 4000000 in
set_option maxRecDepth 100000 in
theorem ends_val (l : List V) (A : Option Addr) (c : Nat) (hl : l.length ≤ 1000000) (hs : ∀ v ∈ l, v.s.size ≤ maxLen) (w : World) (hr : VRow w A l) (s : S) (hS : addS zeroS l = s) :
    Gives Try.prog 30 #[.slice A l.length c] w (.tuple #[va s.low, va s.high, .bool (decide (0 < s.whole)), .bool (decide (0 < s.nulls))]) := by
  unfold Gives
  have HR := Lib.hid hr
  have HZ := Lib.hid hs
  have HS0 := Lib.hid hS
  clear hr hs hS
  go_enter Try.func30, Try.ntmps30
  go_wp2
  go_loopw [8, 9, 10] (fun sv nv i wr => EndsAt w 44 l sv nv i wr) (fun _ _ i _ => l.length - (intOf i).toNat)
  case atStart => exact ⟨0, ⟨#[], w.drawn⟩, false, false, Nat.zero_le _, rfl, rfl, rfl, rfl, rfl, (more_self _).symm⟩
  case round =>
    obtain ⟨j, x, sb, nb, hj, rfl, rfl, rfl, hsb, hnb, rfl⟩ := hrel
    by_cases h : j < l.length
    · obtain ⟨b, o, rfl⟩ := vrow_some HR.out h
      obtain ⟨hb, c0, c1, c2⟩ := vrow_cells HR.out h rfl
      have HT := Lib.hid (addS_take zeroS l j h)
      have hI := Is.of (l.take j)
      have hz := HZ.out l[j] (List.getElem_mem h)
      have hw0 : 0 ≤ (addS zeroS (l.take j)).whole := by have := hI.whole; omega
      have hn0 : 0 ≤ (addS zeroS (l.take j)).nulls := by have := hI.nulls; have := nn_le (l.take j); omega
      have HN := Lib.hid hI.none
      clear hI
      have hb1 : b < w.heap.size + 1 := by omega
      have hb2 : b < w.heap.size + 1 + 1 := by omega
      have hb3 : b < w.heap.size + 1 + 1 + 1 := by omega
      have hb4 : b < w.heap.size + 1 + 1 + 1 + 1 := by omega
      generalize l[j] = v at *
      generalize addS zeroS (l.take j) = t at *
      obtain ⟨vk, vi, vs⟩ := v
      obtain ⟨⟨lk, li, ls⟩, ⟨hk, hi, hh⟩, wh, nu⟩ := t
      simp only at *
      have HZ2 := Lib.hid hz
      clear hz
      by_cases hv : vk = 0
      · subst hv
        have e1 : unionS ⟨⟨lk, li, ls⟩, ⟨hk, hi, hh⟩, wh, nu⟩ (ofS ⟨0, vi, vs⟩) = ⟨⟨lk, li, ls⟩, ⟨hk, hi, hh⟩, wh, nu + 1⟩ := union_null ⟨⟨lk, li, ls⟩, ⟨hk, hi, hh⟩, wh, nu⟩ HN.out
        have HT2 := Lib.hid (HT.out.trans e1)
        have HSB := Lib.hid hsb
        clear HT e1 hsb hnb
        go_wp2
        refine ⟨⟨j + 1, _, sb, true, by omega, by go_num, rfl, rfl, by rw [HT2.out]; exact HSB.out, by rw [HT2.out]; exact decide_eq_true (by show 0 < nu + 1; omega), by rw [HT2.out]⟩, by simp only [intOf]; omega⟩
      · have hvb : (vk == 0) = false := by rw [beq_eq_false_iff_ne]; exact hv
        have e0 : ofS ⟨vk, vi, vs⟩ = ⟨⟨vk, vi, vs⟩, ⟨vk, vi, vs⟩, 1, 0⟩ := if_neg hv
        have HNB := Lib.hid hnb
        clear hnb hv HN
        cases sb
        · have h0 : wh = 0 := by have := of_decide_eq_false hsb; omega
          have e1 : unionS ⟨⟨lk, li, ls⟩, ⟨hk, hi, hh⟩, wh, nu⟩ (ofS ⟨vk, vi, vs⟩) = ⟨⟨vk, vi, vs⟩, ⟨vk, vi, vs⟩, wh + 1, nu⟩ := by
            rw [e0, union_one]
            simp only
            rw [if_pos (Or.inl h0), if_pos (Or.inl h0)]
          have HT2 := Lib.hid (HT.out.trans e1)
          clear HT e0 e1 h0 hsb
          go_wp2
          refine wp_region_more (by kernel_rfl) (by kernel_rfl) ?_
          repeat (go_big_quiet_step ((fail)))
          refine wpQuiet_nil ?_
          rintro _ ⟨z, rfl⟩
          go_wp2
          refine wp_region_more (by kernel_rfl) (by kernel_rfl) ?_
          repeat (go_big_quiet_step ((fail)))
          refine wpQuiet_nil ?_
          rintro _ ⟨z, rfl⟩
          go_wp2
          refine ⟨⟨j + 1, _, true, nb, by omega, by go_num, rfl, rfl, by rw [HT2.out]; exact decide_eq_true (by show 0 < wh + 1; omega), by rw [HT2.out]; exact HNB.out, by rw [HT2.out]⟩, by simp only [intOf]; omega⟩
        · have h0 : 0 < wh := of_decide_eq_true hsb
          obtain ⟨p, hp⟩ : ∃ p, ordV vk vi vs lk li ls = p := ⟨_, rfl⟩
          obtain ⟨q, hq⟩ : ∃ q, ordV vk vi vs hk hi hh = q := ⟨_, rfl⟩
          have e1 : unionS ⟨⟨lk, li, ls⟩, ⟨hk, hi, hh⟩, wh, nu⟩ (ofS ⟨vk, vi, vs⟩) = ⟨if p < 0 then ⟨vk, vi, vs⟩ else ⟨lk, li, ls⟩, if 0 < q then ⟨vk, vi, vs⟩ else ⟨hk, hi, hh⟩, wh + 1, nu⟩ := by
            rw [e0, union_one]
            unfold ord
            simp only [hp, hq]
            simp only [show ¬ wh = 0 by omega, false_or]
          have HO1 : Hid (∀ W, Gives Try.prog 89 #[.agg #[.int .i64 vk, .int .i64 vi, .string vs], .agg #[.int .i64 lk, .int .i64 li, .string ls]] W (.int .i64 p)) := Lib.hid fun W => rorder_to _ _ _ _ _ _ _ HZ2.out hp W
          have HO2 : Hid (∀ W, Gives Try.prog 89 #[.agg #[.int .i64 vk, .int .i64 vi, .string vs], .agg #[.int .i64 hk, .int .i64 hi, .string hh]] W (.int .i64 q)) := Lib.hid fun W => rorder_to _ _ _ _ _ _ _ HZ2.out hq W
          clear hsb hp hq e0
          by_cases p0 : p < 0 <;> by_cases q0 : 0 < q
          · have e2 : unionS ⟨⟨lk, li, ls⟩, ⟨hk, hi, hh⟩, wh, nu⟩ (ofS ⟨vk, vi, vs⟩) = ⟨⟨vk, vi, vs⟩, ⟨vk, vi, vs⟩, wh + 1, nu⟩ := by rw [e1, if_pos p0, if_pos q0]
            have HT2 := Lib.hid (HT.out.trans e2)
            clear HT e1 e2
            go_wp2
            refine wp_region_more (by kernel_rfl) (by kernel_rfl) ?_
            repeat (go_big_quiet_step ((first | (go_at_call_of 89 (Value.agg #[Value.int .i64 lk, Value.int .i64 li, Value.string ls]); exact (HO1.out _).within) | (go_at_call_of 89 (Value.agg #[Value.int .i64 lk, Value.int .i64 li, Value.string ls]); exact (HO1.out _).inside) | (go_at_call_of 89 (Value.agg #[Value.int .i64 hk, Value.int .i64 hi, Value.string hh]); exact (HO2.out _).within) | (go_at_call_of 89 (Value.agg #[Value.int .i64 hk, Value.int .i64 hi, Value.string hh]); exact (HO2.out _).inside))))
            refine wpQuiet_nil ?_
            rintro _ ⟨z, rfl⟩
            go_wp2
            refine wp_region_more (by kernel_rfl) (by kernel_rfl) ?_
            repeat (go_big_quiet_step ((first | (go_at_call_of 89 (Value.agg #[Value.int .i64 lk, Value.int .i64 li, Value.string ls]); exact (HO1.out _).within) | (go_at_call_of 89 (Value.agg #[Value.int .i64 lk, Value.int .i64 li, Value.string ls]); exact (HO1.out _).inside) | (go_at_call_of 89 (Value.agg #[Value.int .i64 hk, Value.int .i64 hi, Value.string hh]); exact (HO2.out _).within) | (go_at_call_of 89 (Value.agg #[Value.int .i64 hk, Value.int .i64 hi, Value.string hh]); exact (HO2.out _).inside))))
            refine wpQuiet_nil ?_
            rintro _ ⟨z, rfl⟩
            go_wp2
            refine ⟨⟨j + 1, _, true, nb, by omega, by go_num, rfl, rfl, by rw [HT2.out]; exact decide_eq_true (by show 0 < wh + 1; omega), by rw [HT2.out]; exact HNB.out, by rw [HT2.out]⟩, by simp only [intOf]; omega⟩
          · have e2 : unionS ⟨⟨lk, li, ls⟩, ⟨hk, hi, hh⟩, wh, nu⟩ (ofS ⟨vk, vi, vs⟩) = ⟨⟨vk, vi, vs⟩, ⟨hk, hi, hh⟩, wh + 1, nu⟩ := by rw [e1, if_pos p0, if_neg q0]
            have HT2 := Lib.hid (HT.out.trans e2)
            clear HT e1 e2
            go_wp2
            refine wp_region_more (by kernel_rfl) (by kernel_rfl) ?_
            repeat (go_big_quiet_step ((first | (go_at_call_of 89 (Value.agg #[Value.int .i64 lk, Value.int .i64 li, Value.string ls]); exact (HO1.out _).within) | (go_at_call_of 89 (Value.agg #[Value.int .i64 lk, Value.int .i64 li, Value.string ls]); exact (HO1.out _).inside) | (go_at_call_of 89 (Value.agg #[Value.int .i64 hk, Value.int .i64 hi, Value.string hh]); exact (HO2.out _).within) | (go_at_call_of 89 (Value.agg #[Value.int .i64 hk, Value.int .i64 hi, Value.string hh]); exact (HO2.out _).inside))))
            refine wpQuiet_nil ?_
            rintro _ ⟨z, rfl⟩
            go_wp2
            refine wp_region_more (by kernel_rfl) (by kernel_rfl) ?_
            repeat (go_big_quiet_step ((first | (go_at_call_of 89 (Value.agg #[Value.int .i64 lk, Value.int .i64 li, Value.string ls]); exact (HO1.out _).within) | (go_at_call_of 89 (Value.agg #[Value.int .i64 lk, Value.int .i64 li, Value.string ls]); exact (HO1.out _).inside) | (go_at_call_of 89 (Value.agg #[Value.int .i64 hk, Value.int .i64 hi, Value.string hh]); exact (HO2.out _).within) | (go_at_call_of 89 (Value.agg #[Value.int .i64 hk, Value.int .i64 hi, Value.string hh]); exact (HO2.out _).inside))))
            refine wpQuiet_nil ?_
            rintro _ ⟨z, rfl⟩
            go_wp2
            refine ⟨⟨j + 1, _, true, nb, by omega, by go_num, rfl, rfl, by rw [HT2.out]; exact decide_eq_true (by show 0 < wh + 1; omega), by rw [HT2.out]; exact HNB.out, by rw [HT2.out]⟩, by simp only [intOf]; omega⟩
          · have e2 : unionS ⟨⟨lk, li, ls⟩, ⟨hk, hi, hh⟩, wh, nu⟩ (ofS ⟨vk, vi, vs⟩) = ⟨⟨lk, li, ls⟩, ⟨vk, vi, vs⟩, wh + 1, nu⟩ := by rw [e1, if_neg p0, if_pos q0]
            have HT2 := Lib.hid (HT.out.trans e2)
            clear HT e1 e2
            go_wp2
            refine wp_region_more (by kernel_rfl) (by kernel_rfl) ?_
            repeat (go_big_quiet_step ((first | (go_at_call_of 89 (Value.agg #[Value.int .i64 lk, Value.int .i64 li, Value.string ls]); exact (HO1.out _).within) | (go_at_call_of 89 (Value.agg #[Value.int .i64 lk, Value.int .i64 li, Value.string ls]); exact (HO1.out _).inside) | (go_at_call_of 89 (Value.agg #[Value.int .i64 hk, Value.int .i64 hi, Value.string hh]); exact (HO2.out _).within) | (go_at_call_of 89 (Value.agg #[Value.int .i64 hk, Value.int .i64 hi, Value.string hh]); exact (HO2.out _).inside))))
            refine wpQuiet_nil ?_
            rintro _ ⟨z, rfl⟩
            go_wp2
            refine wp_region_more (by kernel_rfl) (by kernel_rfl) ?_
            repeat (go_big_quiet_step ((first | (go_at_call_of 89 (Value.agg #[Value.int .i64 lk, Value.int .i64 li, Value.string ls]); exact (HO1.out _).within) | (go_at_call_of 89 (Value.agg #[Value.int .i64 lk, Value.int .i64 li, Value.string ls]); exact (HO1.out _).inside) | (go_at_call_of 89 (Value.agg #[Value.int .i64 hk, Value.int .i64 hi, Value.string hh]); exact (HO2.out _).within) | (go_at_call_of 89 (Value.agg #[Value.int .i64 hk, Value.int .i64 hi, Value.string hh]); exact (HO2.out _).inside))))
            refine wpQuiet_nil ?_
            rintro _ ⟨z, rfl⟩
            go_wp2
            refine ⟨⟨j + 1, _, true, nb, by omega, by go_num, rfl, rfl, by rw [HT2.out]; exact decide_eq_true (by show 0 < wh + 1; omega), by rw [HT2.out]; exact HNB.out, by rw [HT2.out]⟩, by simp only [intOf]; omega⟩
          · have e2 : unionS ⟨⟨lk, li, ls⟩, ⟨hk, hi, hh⟩, wh, nu⟩ (ofS ⟨vk, vi, vs⟩) = ⟨⟨lk, li, ls⟩, ⟨hk, hi, hh⟩, wh + 1, nu⟩ := by rw [e1, if_neg p0, if_neg q0]
            have HT2 := Lib.hid (HT.out.trans e2)
            clear HT e1 e2
            go_wp2
            refine wp_region_more (by kernel_rfl) (by kernel_rfl) ?_
            repeat (go_big_quiet_step ((first | (go_at_call_of 89 (Value.agg #[Value.int .i64 lk, Value.int .i64 li, Value.string ls]); exact (HO1.out _).within) | (go_at_call_of 89 (Value.agg #[Value.int .i64 lk, Value.int .i64 li, Value.string ls]); exact (HO1.out _).inside) | (go_at_call_of 89 (Value.agg #[Value.int .i64 hk, Value.int .i64 hi, Value.string hh]); exact (HO2.out _).within) | (go_at_call_of 89 (Value.agg #[Value.int .i64 hk, Value.int .i64 hi, Value.string hh]); exact (HO2.out _).inside))))
            refine wpQuiet_nil ?_
            rintro _ ⟨z, rfl⟩
            go_wp2
            refine wp_region_more (by kernel_rfl) (by kernel_rfl) ?_
            repeat (go_big_quiet_step ((first | (go_at_call_of 89 (Value.agg #[Value.int .i64 lk, Value.int .i64 li, Value.string ls]); exact (HO1.out _).within) | (go_at_call_of 89 (Value.agg #[Value.int .i64 lk, Value.int .i64 li, Value.string ls]); exact (HO1.out _).inside) | (go_at_call_of 89 (Value.agg #[Value.int .i64 hk, Value.int .i64 hi, Value.string hh]); exact (HO2.out _).within) | (go_at_call_of 89 (Value.agg #[Value.int .i64 hk, Value.int .i64 hi, Value.string hh]); exact (HO2.out _).inside))))
            refine wpQuiet_nil ?_
            rintro _ ⟨z, rfl⟩
            go_wp2
            refine ⟨⟨j + 1, _, true, nb, by omega, by go_num, rfl, rfl, by rw [HT2.out]; exact decide_eq_true (by show 0 < wh + 1; omega), by rw [HT2.out]; exact HNB.out, by rw [HT2.out]⟩, by simp only [intOf]; omega⟩
    · obtain rfl : j = l.length := by omega
      rw [List.take_length, HS0.out] at hsb hnb ⊢
      subst hsb hnb
      obtain ⟨⟨lk, li, ls⟩, ⟨hk, hi, hh⟩, wh, nu⟩ := s
      go_wp2
      go_region
      all_goals
        go_wp2
        exact bodyPost_ret (v := .tuple #[.agg #[.int .i64 lk, .int .i64 li, .string ls], .agg #[.int .i64 hk, .int .i64 hi, .string hh], .bool (decide (0 < wh)), .bool (decide (0 < nu))]) (by simp [results, Try.results30, go_sem]) rfl ⟨rfl, by (show Grew _ _; repeat (first | exact Grew.refl _ | refine Grew.alloc ?_ _ | refine Grew.drew ?_ | refine Grew.more ?_ _))⟩
end Go.Proofs.Ythngafgblehpoaa
