/- The law of shares together, of layer 28. Condition: a slice of floats lies in memory that is there. -/
import Derived.Test.YtlnpiemnkpogfaaFrac4
namespace Go.Proofs.Ytlnpiemnkpogfaa
open Go.RowKit
attribute [local go_sem] more_cell more_frozen more_more more_setCell more_of_drew more_of_drewN lt_more le_more past_cell past_cell2 past_frozen past_frozen2 past_setCell past_setCell2 mid_cell mid_frozen mid_setCell
attribute [local go_sem ↓] Go.wp_at_zero Go.wp_at_succ

theorem or_back (a b : Nat) (ha : a < 18446744073709551616) (hb : b < 18446744073709551616) (w : World) : Calls Try.prog 38 #[.float .f64 b, .float .f64 a] w fun e w' => e = .returned (.float .f64 (orB a b)) ∧ w' = w := by
  rw [← orB_comm]
  exact or_any b a hb ha w
theorem ord_le {x y : Nat} (h : x ≤ y) (hy : y ≤ 4607182418800017408) : FloatKind.f64.format.order x y = some .lt ∨ FloatKind.f64.format.order x y = some .eq := by
  rw [ord_pos (by omega) (by omega)]
  rcases Nat.lt_or_eq_of_le h with h | h
  · left; rw [cmp_lt h]
  · right; rw [h, Nat.compare_eq_eq.2 rfl]
set_option maxHeartbeats 1000000 in
theorem fracParts_walk (a b : Nat) (l : List Nat) (A : Option Addr) (c : Nat) (ha : a < 18446744073709551616) (hb : b < 18446744073709551616) (hl : l.length ≤ maxLen) (hall : ∀ x ∈ l, x < 18446744073709551616) (w : World) (hr : Row w A (l.map (Value.float .f64))) :
    Gives Try.prog 7 #[.float .f64 a, .float .f64 b, .slice A l.length c] w (.bool true) := by
  have hl' : (l.length : Int) ≤ 9223372036854775807 := by unfold maxLen at hl; omega
  clear hl
  by_cases h1 : 100 < l.length
  · clear hall hr ha hb
    unfold Gives
    go_enter Try.func7, Try.ntmps7
    go_wp2_with (go_at_call 36; refine (live28_any _).mono ?_; rintro e w' ⟨rfl, x, rfl⟩)
    go_ret
    exact ⟨rfl, by (show Grew _ _; repeat (first | exact Grew.refl _ | refine Grew.alloc ?_ _ | refine Grew.drew ?_ | refine Grew.more ?_ _))⟩
  · have HN := Lib.hid (not_any a ha)
    have HRN := Lib.hid (rnot_any a ha)
    have HO := Lib.hid (or_any a b ha hb)
    have HOB := Lib.hid (or_back a b ha hb)
    have HRO := Lib.hid (ror_any a b ha hb)
    have HA := Lib.hid (and_any l A c (by omega) hall w hr)
    have HRA := Lib.hid (rand_any l A c (by omega) hall w hr)
    have HNS := Lib.hid (notB_is a).2
    have HOS : Hid (orB a b ≤ 4607182418800017408) := Lib.hid (cleanB_le _)
    have HAS := Lib.hid (andF_le l 4607182418800017408 (by omega))
    have HP := Lib.hid (andF_part l 4607182418800017408 (by omega))
    have HR := Lib.hid hr
    have HX := Lib.hid hall
    clear ha hb hall hr
    generalize andF l 4607182418800017408 = p at *
    generalize orB a b = o at *
    generalize notB a = n at *
    unfold Gives
    go_enter Try.func7, Try.ntmps7
    go_wp2_with (first | (go_at_call 37; refine (HN.out _).mono ?_; rintro e w' ⟨rfl, rfl⟩) | (go_at_call_of 38 (Value.float .f64 a); (with_reducible refine (HO.out _).mono ?_); rintro e w' ⟨rfl, rfl⟩) | (go_at_call 38; (with_reducible refine (HOB.out _).mono ?_); rintro e w' ⟨rfl, rfl⟩) | (go_at_call 39; refine (HA.out).mono ?_; rintro e w' ⟨rfl, rfl⟩) | (go_at_call 40; refine (HRN.out _).mono ?_; rintro e w' ⟨rfl, rfl⟩) | (go_at_call 41; refine (HRO.out _).mono ?_; rintro e w' ⟨rfl, rfl⟩) | (go_at_call 42; refine (HRA.out).mono ?_; rintro e w' ⟨rfl, rfl⟩) | (go_at_call 32; refine (same_any _ _ _).mono ?_; rintro e w' ⟨rfl, rfl⟩))
    go_loop [10] (fun i => ∃ k : Nat, k ≤ l.length ∧ i = .int .i64 k) (fun i => l.length - (intOf i).toNat)
    case atStart => exact ⟨0, Nat.zero_le _, rfl⟩
    case round =>
      obtain ⟨k, hk, rfl⟩ := hrel
      by_cases h : k < l.length
      · obtain ⟨bb, oo, rfl, hbb, hc⟩ := HR.out.at_ (k := k) (by simpa using h)
        simp only [List.getElem_map] at hc
        have HC := Lib.hid (rclean_any l[k] (HX.out _ (List.getElem_mem h)))
        have ho := ord_le (HP.out _ (List.getElem_mem h)) (cleanB_le l[k])
        generalize cleanB l[k] = y at *
        generalize l[k] = z at *
        rcases ho with ho | ho
        all_goals
          go_wp2_with (go_at_call 33; refine (HC.out _).mono ?_; rintro e w' ⟨rfl, rfl⟩)
          case roundEnd => exact ⟨⟨k + 1, by omega, by simp⟩, by simp only [intOf]; omega⟩
      · obtain rfl : k = l.length := by omega
        go_wp2_with (first | (go_at_call_of 34 (Value.float .f64 n); (with_reducible refine (share_any n HNS.out _).mono ?_); rintro e w' ⟨rfl, rfl⟩) | (go_at_call_of 34 (Value.float .f64 o); (with_reducible refine (share_any o HOS.out _).mono ?_); rintro e w' ⟨rfl, rfl⟩) | (go_at_call 34; (with_reducible refine (share_any p HAS.out _).mono ?_); rintro e w' ⟨rfl, rfl⟩) | (go_at_call 36; refine (live28_any _).mono ?_; rintro e w' ⟨rfl, x, rfl⟩))
        go_ret
        exact ⟨rfl, by (show Grew _ _; repeat (first | exact Grew.refl _ | refine Grew.alloc ?_ _ | refine Grew.drew ?_ | refine Grew.more ?_ _))⟩
end Go.Proofs.Ytlnpiemnkpogfaa
