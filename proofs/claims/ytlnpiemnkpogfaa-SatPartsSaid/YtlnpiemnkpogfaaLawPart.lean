/- The law of parts of counts, of layer 26. No condition. -/
import Derived.Test.YtlnpiemnkpogfaaPart
namespace Go.Proofs.Ytlnpiemnkpogfaa
open Go.RowKit
attribute [local go_sem] more_cell more_frozen more_more more_setCell more_of_drew more_of_drewN lt_more le_more past_cell past_cell2 past_frozen past_frozen2 past_setCell past_setCell2 mid_cell mid_frozen mid_setCell
attribute [local go_sem ↓] Go.wp_at_zero Go.wp_at_succ

set_option maxHeartbeats 1000000 in
theorem satParts_walk (n num den : Int) (w : World) : Gives Try.prog 3 #[.int .i64 n, .int .i64 num, .int .i64 den] w (.bool true) := by
  have hx := cutI_s n
  unfold sI at hx
  obtain ⟨x0, x1⟩ := hx
  have hp := partI_s (n := cutI n) (num := cutI num) (den := cutI den) x0 (cutI_s num).1
  obtain ⟨p0, p1⟩ := hp
  unfold Gives
  go_enter Try.func3, Try.ntmps3
  go_wp2_with (first | (go_at_call 22; refine (live26_any _).mono ?_; rintro e w' ⟨rfl, x, rfl⟩) | (go_at_call 15; refine (part_any _ _ _ _).mono ?_; rintro e w' ⟨rfl, x, rfl⟩) | (go_at_call 18; refine (rpart_any _ _ _ _).mono ?_; rintro e w' ⟨rfl, rfl⟩) | (go_at_call 16; refine (sdiv_any _ _ _).mono ?_; rintro e w' ⟨rfl, rfl⟩) | (go_at_call 17; refine (rdiv_any _ _ _).mono ?_; rintro e w' ⟨rfl, rfl⟩) | (go_at_call 20; refine (bits_any _ _).mono ?_; rintro e w' ⟨rfl, rfl⟩) | (go_at_call 21; refine (rbits_any _ _).mono ?_; rintro e w' ⟨rfl, rfl⟩) | (go_at_call 19; refine (rcut_any _ _).mono ?_; rintro e w' ⟨rfl, rfl⟩))
  go_ret
  exact ⟨rfl, by (show Grew _ _; repeat (first | exact Grew.refl _ | refine Grew.alloc ?_ _ | refine Grew.drew ?_ | refine Grew.more ?_ _))⟩
end Go.Proofs.Ytlnpiemnkpogfaa
