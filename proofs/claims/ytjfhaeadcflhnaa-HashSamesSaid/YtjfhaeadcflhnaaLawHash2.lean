/- The law of the same numbers of values that are the same, of layer 17. Condition: texts that fit into memory. -/
import Derived.Test.YtjfhaeadcflhnaaHash2
namespace Go.Proofs.Ytjfhaeadcflhnaa
open Go.RowKit
attribute [local go_sem] more_cell more_frozen more_more more_setCell more_of_drew more_of_drewN lt_more le_more past_cell past_cell2 past_frozen past_frozen2 past_setCell past_setCell2 mid_cell mid_frozen mid_setCell
attribute [local go_sem ↓] Go.wp_at_zero Go.wp_at_succ

set_option maxHeartbeats 1000000 in
theorem hashSames_walk (n k i : Int) (s : ByteArray) (k' i' : Int) (s' : ByteArray) (hs : s.size ≤ 2305843009213693952) (hs' : s'.size ≤ 2305843009213693952) (w : World) :
    Gives Try.prog 4 #[.int .i64 n, .agg #[.int .i64 k, .int .i64 i, .string s], .agg #[.int .i64 k', .int .i64 i', .string s']] w (.bool true) := by
  unfold Gives
  by_cases hz : 600 < s.size + s'.size
  · go_enter Try.func4, Try.ntmps4
    go_wp2_with (first | (go_at_call 16; refine (live17_any _).mono ?_; rintro e w' ⟨rfl, x, rfl⟩))
    go_ret
    exact ⟨rfl, by (show Grew _ _; repeat (first | exact Grew.refl _ | refine Grew.alloc ?_ _ | refine Grew.drew ?_ | refine Grew.more ?_ _))⟩
  · have h1 : s.size ≤ 1000 := by omega
    have h2 : s'.size ≤ 1000 := by omega
    cases hv : sameV k i s k' i' s'
    · go_enter Try.func4, Try.ntmps4
      go_wp2_with (first | (go_at_call 16; refine (live17_any _).mono ?_; rintro e w' ⟨rfl, x, rfl⟩))
      refine wp_region_more (by kernel_rfl) (by kernel_rfl) ?_
      repeat (go_big_quiet_step ((first | (go_at_call 17; exact (rsame_any _ _ _ _ _ _ _).within) | (go_at_call 18; exact (of_any _ _ _ _ (by omega) _).within) | (go_at_call 16; exact (live17_any _).within))))
      refine wpQuiet_nil ?_
      rintro _ ⟨z, rfl⟩
      go_wp2_with (first | (go_at_call 16; refine (live17_any _).mono ?_; rintro e w' ⟨rfl, x, rfl⟩))
      go_ret
      exact ⟨rfl, by (show Grew _ _; repeat (first | exact Grew.refl _ | refine Grew.alloc ?_ _ | refine Grew.drew ?_ | refine Grew.more ?_ _))⟩
    · obtain ⟨rfl, rfl, rfl⟩ := sameV_eq hv
      go_enter Try.func4, Try.ntmps4
      go_wp2_with (first | (go_at_call 16; refine (live17_any _).mono ?_; rintro e w' ⟨rfl, x, rfl⟩))
      refine wp_region_more (by kernel_rfl) (by kernel_rfl) ?_
      repeat (go_big_quiet_step ((first | (go_at_call 17; exact (rsame_any _ _ _ _ _ _ _).within) | (go_at_call 18; exact (of_any _ _ _ _ (by omega) _).within) | (go_at_call 16; exact (live17_any _).within))))
      refine wpQuiet_nil ?_
      rintro _ ⟨z, rfl⟩
      go_wp2_with (first | (go_at_call 16; refine (live17_any _).mono ?_; rintro e w' ⟨rfl, x, rfl⟩))
      go_ret
      exact ⟨rfl, by (show Grew _ _; repeat (first | exact Grew.refl _ | refine Grew.alloc ?_ _ | refine Grew.drew ?_ | refine Grew.more ?_ _))⟩
end Go.Proofs.Ytjfhaeadcflhnaa
