/- The law of sums of counts, of layer 26. Condition: a slice of numbers lies in memory that is there. -/
import Derived.Test.YtjfhaeadcflhnaaSat2
namespace Go.Proofs.Ytjfhaeadcflhnaa
open Go.RowKit
attribute [local go_sem] more_cell more_frozen more_more more_setCell more_of_drew more_of_drewN lt_more le_more past_cell past_cell2 past_frozen past_frozen2 past_setCell past_setCell2 mid_cell mid_frozen mid_setCell
attribute [local go_sem ↓] Go.wp_at_zero Go.wp_at_succ

set_option maxHeartbeats 1000000 in
theorem satSums_walk (l : List Int) (A : Option Addr) (c : Nat) (n : Int) (hl : l.length ≤ maxLen) (w : World) (hr : Row w A (l.map (Value.int .i64))) :
    Gives Try.prog 5 #[.slice A l.length c, .int .i64 n] w (.bool true) := by
  unfold Gives
  have HR := Lib.hid hr
  clear hr
  have hl' : (l.length : Int) ≤ 9223372036854775807 := by unfold maxLen at hl; omega
  by_cases h1 : 100 < l.length
  · go_enter Try.func5, Try.ntmps5
    go_wp2_with (first | (go_at_call 19; refine (live26_any _).mono ?_; rintro e w' ⟨rfl, x, rfl⟩))
    go_ret
    exact ⟨rfl, _, rfl⟩
  · have h2 : l.length ≤ 1000000 := by omega
    go_enter Try.func5, Try.ntmps5
    go_wp2_with (first | (go_at_call 19; refine (live26_any _).mono ?_; rintro e w' ⟨rfl, x, rfl⟩) | (go_at_call 20; refine (add_any l A c h2 _ HR.out).mono ?_; rintro e w' ⟨rfl, rfl⟩) | (go_at_call 21; refine (rfoldP_any l A c h2 _ HR.out).mono ?_; rintro e w' ⟨rfl, rfl⟩) | (go_at_call 22; refine (mul_any l A c h2 _ HR.out).mono ?_; rintro e w' ⟨rfl, rfl⟩) | (go_at_call 23; refine (rfoldM_any l A c h2 _ HR.out).mono ?_; rintro e w' ⟨rfl, rfl⟩) | (go_at_call 24; refine (cut_any _ _).mono ?_; rintro e w' ⟨rfl, rfl⟩) | (go_at_call 25; refine (rcut_any _ _).mono ?_; rintro e w' ⟨rfl, rfl⟩) | (go_at_call 26; refine (full_any _ _).mono ?_; rintro e w' ⟨rfl, rfl⟩))
    go_ret
    exact ⟨rfl, by (show Grew _ _; repeat (first | exact Grew.refl _ | refine Grew.alloc ?_ _ | refine Grew.drew ?_ | refine Grew.more ?_ _))⟩
end Go.Proofs.Ytjfhaeadcflhnaa
