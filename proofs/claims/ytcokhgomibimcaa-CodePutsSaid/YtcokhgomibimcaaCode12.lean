/- Layer 39: the page's example. -/
import Derived.Test.YtcokhgomibimcaaCode11
import Derived.Test.YtcokhgomibimcaaSame
namespace Go.Proofs.Ytcokhgomibimcaa
open Go.RowKit
attribute [local go_sem] more_cell more_frozen more_more more_setCell more_of_drew more_of_drewN lt_more le_more past_cell past_cell2 past_frozen past_frozen2 past_setCell past_setCell2 mid_cell mid_frozen mid_setCell
attribute [local go_sem ↓] Go.wp_at_zero Go.wp_at_succ

theorem vb65 : vb (zz (-65)) = [129, 1] := by decide
set_option maxRecDepth 100000 in
theorem live39_any (w : World) : Gives Try.prog 15 #[] w (.bool true) := by
  unfold Gives
  have HP : Hid (∀ W, Calls Try.prog 16 #[.slice none 0 0, .int .i64 (-65)] W (PutF W [129, 1])) := Lib.hid fun W => by
    have h := putint_any [] none 0 (-65) (by decide) (by decide) (by decide) W (Or.inl rfl)
    rw [vb65] at h
    exact h
  have en := strN_eqT (a := [129, 1]) rfl
  have CV0 : ∀ (W : World), (convert 22 9 (.slice (some ⟨W.heap.size, 0, none⟩) 2 2)).run Try.prog (W.alloc (.cells #[.int .u8 129, .int .u8 1] 5)) = .ok (.string (strN [129, 1])) (W.alloc (.cells #[.int .u8 129, .int .u8 1] 5)) := fun W => run_str [129, 1] 2 rfl _ 2 _ (row_new W _ _ #[.int .u8 129, .int .u8 1] rfl)
  have CV1 : ∀ (W : World), (convert 22 9 (.slice (some ⟨W.heap.size, 0, none⟩) 2 2)).run Try.prog (W.alloc (.cells #[.int .u8 129, .int .u8 1] 5)).drew = .ok (.string (strN [129, 1])) (W.alloc (.cells #[.int .u8 129, .int .u8 1] 5)).drew := fun W => run_str [129, 1] 2 rfl _ 2 _ ((row_new W _ _ #[.int .u8 129, .int .u8 1] rfl).grew (Grew.refl _).drew)
  go_enter Try.func15, Try.ntmps15
  go_wp2
  go_region_with ((go_at_call 16; (with_reducible refine (HP.out _).mono ?_); rintro e w1 ⟨A1, c1, rfl, ho1, hg1⟩; have HG1 := Lib.hid hg1; have CVa := run_str [129, 1] 2 rfl A1 c1 w1 (put_row ho1); have CVb := fun o => run_str [129, 1] 2 rfl A1 c1 (w1.alloc o) (row_alloc (put_row ho1) o); try (have CVc := run_str [129, 1] 2 rfl _ 2 w1 ((row_new w 5 w.heap.size #[.int .u8 129, .int .u8 1] rfl).grew ((Grew.refl _).drew.trans hg1))); clear ho1 hg1))
  all_goals
    go_wp2
    go_ret
    first
    | exact ⟨rfl, Grew.trans (by (show Grew _ _; repeat (first | exact Grew.refl _ | refine Grew.alloc ?_ _ | refine Grew.drew ?_ | refine Grew.more ?_ _))) HG1.out⟩
    | exact ⟨rfl, Grew.alloc (Grew.trans (by (show Grew _ _; repeat (first | exact Grew.refl _ | refine Grew.alloc ?_ _ | refine Grew.drew ?_ | refine Grew.more ?_ _))) HG1.out) _⟩
end Go.Proofs.Ytcokhgomibimcaa
