/- The laws of shares of floats and of quotients, and of parts of counts, of layer 28. No condition but that bits are 64. -/
import Derived.Test.YtlnpiemnkpogfaaFrac3
namespace Go.Proofs.Ytlnpiemnkpogfaa
open Go.RowKit
attribute [local go_sem] more_cell more_frozen more_more more_setCell more_of_drew more_of_drewN lt_more le_more past_cell past_cell2 past_frozen past_frozen2 past_setCell past_setCell2 mid_cell mid_frozen mid_setCell
attribute [local go_sem ↓] Go.wp_at_zero Go.wp_at_succ

theorem live_scale : scaleI 10 4598175219545276416 = 3 := by decide +kernel
theorem of_to (a b : Int) (r : Nat) (ha : isI64 a) (hb : isI64 b) (h : ofB a b = r) (w : World) : Gives Try.prog 31 #[.int .i64 a, .int .i64 b] w (.float .f64 r) := by
  rw [← h]
  exact of_any a b ha hb w
theorem scale_to (n : Int) (f : Nat) (r : Int) (hf : f < 18446744073709551616) (h : scaleI n f = r) (w : World) : Calls Try.prog 43 #[.int .i64 n, .float .f64 f] w fun e w' => e = .returned (.int .i64 r) ∧ w' = w := by
  rw [← h]
  exact scale_any n f hf w
theorem live28_any (w : World) : Gives Try.prog 36 #[] w (.bool true) := by
  have h1 : ofB 0 0 = 4607182418800017408 := rfl
  have h2 : ofB 0 (-3) = 0 := ofB_zero (by decide) (by decide) (by decide) (Or.inl rfl)
  have i0 : isI64 0 := by unfold isI64; omega
  have i3 : isI64 (-3) := by unfold isI64; omega
  have ho : FloatKind.f64.format.order 4607182418800017408 4607182418800017408 = some .eq := ord_self _ (by decide)
  have H1 := Lib.hid h1
  have H2 := Lib.hid h2
  clear h1 h2
  unfold Gives
  go_enter Try.func36, Try.ntmps36
  go_wp2_with (first | (go_at_call 31; (with_reducible refine (Gives.calls (of_to 0 0 _ i0 i0 H1.out _)).mono ?_); rintro e w' ⟨rfl, x, rfl⟩) | (go_at_call 31; (with_reducible refine (Gives.calls (of_to 0 (-3) _ i0 i3 H2.out _)).mono ?_); rintro e w' ⟨rfl, x, rfl⟩) | (go_at_call 32; refine (same_any _ _ _).mono ?_; rintro e w' ⟨rfl, rfl⟩) | (go_at_call 43; refine (scale_to _ _ 3 (by omega) live_scale _).mono ?_; rintro e w' ⟨rfl, rfl⟩))
  go_ret
  exact ⟨rfl, by (show Grew _ _; repeat (first | exact Grew.refl _ | refine Grew.alloc ?_ _ | refine Grew.drew ?_ | refine Grew.more ?_ _))⟩
set_option maxHeartbeats 1000000 in
theorem fracCleans_walk (f : Nat) (a b : Int) (hf : f < 18446744073709551616) (ha : isI64 a) (hb : isI64 b) (w : World) : Gives Try.prog 6 #[.float .f64 f, .int .i64 a, .int .i64 b] w (.bool true) := by
  have h1 := cleanB_le f
  have h2 := ofB_le a b
  have h3 := cleanB_self h1
  have H1 := Lib.hid h1
  have H2 := Lib.hid h2
  have H3 := Lib.hid h3
  have HC := Lib.hid (clean_any f hf)
  have HR := Lib.hid (rclean_any f hf)
  clear h1 h2 h3 hf
  generalize cleanB f = c at *
  generalize hq : ofB a b = q at *
  have HO := Lib.hid (of_to a b q ha hb hq)
  have HP : Hid (∀ w, Gives Try.prog 35 #[.int .i64 a, .int .i64 b] w (.float .f64 q)) := Lib.hid (by intro w; rw [← hq]; exact rof_any a b ha hb w)
  clear hq
  unfold Gives
  go_enter Try.func6, Try.ntmps6
  go_wp2_with (first | (go_at_call_of 30 (Value.float .f64 f); (with_reducible refine (HC.out _).mono ?_); rintro e w' ⟨rfl, rfl⟩) | (go_at_call_of 30 (Value.float .f64 c); (with_reducible refine (clean_to c c (by have := H1.out; omega) H3.out _).mono ?_); rintro e w' ⟨rfl, rfl⟩) | (go_at_call 33; refine (HR.out _).mono ?_; rintro e w' ⟨rfl, rfl⟩) | (go_at_call 31; refine (HO.out _).mono ?_; rintro e w' ⟨rfl, x, rfl⟩) | (go_at_call 35; refine (HP.out _).mono ?_; rintro e w' ⟨rfl, x, rfl⟩) | (go_at_call 32; refine (same_any _ _ _).mono ?_; rintro e w' ⟨rfl, rfl⟩) | (go_at_call_of 34 (Value.float .f64 c); (with_reducible refine (share_any c H1.out _).mono ?_); rintro e w' ⟨rfl, rfl⟩) | (go_at_call_of 34 (Value.float .f64 q); (with_reducible refine (share_any q H2.out _).mono ?_); rintro e w' ⟨rfl, rfl⟩) | (go_at_call 36; refine (live28_any _).mono ?_; rintro e w' ⟨rfl, x, rfl⟩))
  go_ret
  exact ⟨rfl, by (show Grew _ _; repeat (first | exact Grew.refl _ | refine Grew.alloc ?_ _ | refine Grew.drew ?_ | refine Grew.more ?_ _))⟩
end Go.Proofs.Ytlnpiemnkpogfaa
