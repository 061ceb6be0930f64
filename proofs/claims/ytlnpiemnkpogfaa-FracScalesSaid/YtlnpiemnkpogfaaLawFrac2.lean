/- The law of parts of counts by shares, of layer 28. No condition but that bits are 64. -/
import Derived.Test.YtlnpiemnkpogfaaLawFrac
namespace Go.Proofs.Ytlnpiemnkpogfaa
open Go.RowKit
attribute [local go_sem] more_cell more_frozen more_more more_setCell more_of_drew more_of_drewN lt_more le_more past_cell past_cell2 past_frozen past_frozen2 past_setCell past_setCell2 mid_cell mid_frozen mid_setCell
attribute [local go_sem ↓] Go.wp_at_zero Go.wp_at_succ

/-- How two shares lie. -/
theorem ord_clean (f g : Nat) : cleanB f ≤ cleanB g ∧ (FloatKind.f64.format.order (cleanB f) (cleanB g) = some .lt ∨ FloatKind.f64.format.order (cleanB f) (cleanB g) = some .eq) ∨
    cleanB g < cleanB f ∧ FloatKind.f64.format.order (cleanB f) (cleanB g) = some .gt := by
  have h1 := cleanB_le f
  have h2 := cleanB_le g
  rw [ord_pos (by omega) (by omega)]
  rcases Nat.lt_trichotomy (cleanB f) (cleanB g) with h | h | h
  · left; exact ⟨by omega, Or.inl (by rw [cmp_lt h])⟩
  · left; exact ⟨by omega, Or.inr (by rw [Nat.compare_eq_eq.2 h])⟩
  · right; exact ⟨h, by rw [cmp_gt h]⟩
theorem cutI_le_cutI {a b : Int} (h : a ≤ b) : cutI a ≤ cutI b := by unfold cutI; (repeat' split) <;> omega
theorem cutI_nonneg_le {n : Int} (h : 0 ≤ n) : cutI n ≤ n := by unfold cutI; (repeat' split) <;> omega
set_option maxHeartbeats 1000000 in
theorem fracScales_walk (n m : Int) (f g : Nat) (hf : f < 18446744073709551616) (hg : g < 18446744073709551616) (w : World) :
    Gives Try.prog 8 #[.int .i64 n, .int .i64 m, .float .f64 f, .float .f64 g] w (.bool true) := by
  have hk := scaleI_s n f
  obtain ⟨k0, k1⟩ := hk
  have hC1 := Lib.hid (rclean_any f hf)
  have hC2 := Lib.hid (rclean_any g hg)
  have hS1 := Lib.hid (fun n => scale_any n f hf)
  have hS2 := Lib.hid (fun n => scale_any n g hg)
  have hR := Lib.hid (rscale_any n f hf)
  have hup : Hid (n ≤ m → scaleI n f ≤ scaleI m f) := Lib.hid fun h => scaleI_up (cutI_le_cutI h) (Nat.le_refl _)
  have hup2 : Hid (cleanB f ≤ cleanB g → scaleI n f ≤ scaleI n g) := Lib.hid fun h => scaleI_up (Int.le_refl _) h
  have hco : Hid (_ ∨ _) := Lib.hid (ord_clean f g)
  have hnn : Hid (0 ≤ n → cutI n ≤ n) := Lib.hid cutI_nonneg_le
  clear hf hg
  rcases (by omega : n ≤ m ∨ m < n) with h1 | h1
  all_goals
    rcases hco.out with ⟨h2, h3 | h3⟩ | ⟨h2, h3⟩
    all_goals
      rcases (by omega : 0 ≤ n ∨ n < 0) with h4 | h4
      all_goals
        try have g1 := hup.out h1
        try have g2 := hup2.out h2
        try have g3 : scaleI n f ≤ n := by have := hnn.out h4; omega
        clear h2
        generalize cleanB f = x at *
        generalize cleanB g = y at *
        unfold Gives
        go_enter Try.func8, Try.ntmps8
        go_wp2_with (first | (go_at_call_of 43 (Value.int .i64 n); (with_reducible refine (hS1.out _ _).mono ?_); rintro e w' ⟨rfl, rfl⟩) | (go_at_call 43; (with_reducible refine (hS2.out _ _).mono ?_); rintro e w' ⟨rfl, rfl⟩) | (go_at_call 43; (with_reducible refine (hS1.out _ _).mono ?_); rintro e w' ⟨rfl, rfl⟩) | (go_at_call 44; refine (hR.out _).mono ?_; rintro e w' ⟨rfl, rfl⟩) | (go_at_call 33; (with_reducible refine (hC1.out _).mono ?_); rintro e w' ⟨rfl, rfl⟩) | (go_at_call 33; (with_reducible refine (hC2.out _).mono ?_); rintro e w' ⟨rfl, rfl⟩) | (go_at_call 36; refine (live28_any _).mono ?_; rintro e w' ⟨rfl, x, rfl⟩))
        go_ret
        exact ⟨rfl, by (show Grew _ _; repeat (first | exact Grew.refl _ | refine Grew.alloc ?_ _ | refine Grew.drew ?_ | refine Grew.more ?_ _))⟩
end Go.Proofs.Ytlnpiemnkpogfaa
