/- The laws of filters' passes and gains, of layer 29. No condition. -/
import Derived.Test.YtlnpiemnkpogfaaCost
namespace Go.Proofs.Ytlnpiemnkpogfaa
open Go.RowKit
attribute [local go_sem] more_cell more_frozen more_more more_setCell more_of_drew more_of_drewN lt_more le_more past_cell past_cell2 past_frozen past_frozen2 past_setCell past_setCell2 mid_cell mid_frozen mid_setCell
attribute [local go_sem ↓] Go.wp_at_zero Go.wp_at_succ

set_option maxHeartbeats 1000000 in
theorem costPasses_walk (words bits keys m : Int) (w : World) : Gives Try.prog 4 #[.int .i64 words, .int .i64 bits, .int .i64 keys, .int .i64 m] w (.bool true) := by
  have hp := passN_s words bits keys
  obtain ⟨p0, p1⟩ := hp
  unfold Gives
  by_cases h1 : keys ≤ m
  · have g1 := passN_up (words := words) (bits := bits) h1
    by_cases h2 : words ≤ m
    all_goals
      try have g2 := passN_down (bits := bits) (keys := keys) h2
      go_enter Try.func4, Try.ntmps4
      go_wp2_with (first | (go_at_call 25; refine (live29_any _).mono ?_; rintro e w' ⟨rfl, x, rfl⟩) | (go_at_call 23; refine (pass_any _ _ _ _).mono ?_; rintro e w' ⟨rfl, x, rfl⟩) | (go_at_call 24; refine (rpass_any _ _ _ _).mono ?_; rintro e w' ⟨rfl, rfl⟩))
      go_ret
      exact ⟨rfl, by (show Grew _ _; repeat (first | exact Grew.refl _ | refine Grew.alloc ?_ _ | refine Grew.drew ?_ | refine Grew.more ?_ _))⟩
  · by_cases h2 : words ≤ m
    all_goals
      try have g2 := passN_down (bits := bits) (keys := keys) h2
      go_enter Try.func4, Try.ntmps4
      go_wp2_with (first | (go_at_call 25; refine (live29_any _).mono ?_; rintro e w' ⟨rfl, x, rfl⟩) | (go_at_call 23; refine (pass_any _ _ _ _).mono ?_; rintro e w' ⟨rfl, x, rfl⟩) | (go_at_call 24; refine (rpass_any _ _ _ _).mono ?_; rintro e w' ⟨rfl, rfl⟩))
      go_ret
      exact ⟨rfl, by (show Grew _ _; repeat (first | exact Grew.refl _ | refine Grew.alloc ?_ _ | refine Grew.drew ?_ | refine Grew.more ?_ _))⟩
theorem worth_to (rows pass : Int) (b : Bool) (h : worthB rows pass = b) (w : World) : Gives Try.prog 28 #[.int .i64 rows, .int .i64 pass] w (.bool b) := by
  rw [← h]
  exact worth_any rows pass w
set_option maxHeartbeats 1000000 in
theorem costGains_walk (rows pass m : Int) (w : World) : Gives Try.prog 5 #[.int .i64 rows, .int .i64 pass, .int .i64 m] w (.bool true) := by
  have hg := gainN_s rows pass
  have hc := cutI_s rows
  unfold sI at hc
  have hM : timesI (cutI 4) (cutI (gainN rows pass)) = timesI 4 (gainN rows pass) := by
    rw [cutI_self (n := gainN rows pass) ⟨by omega, by omega⟩]
    rfl
  obtain ⟨g0, g1⟩ := hg
  obtain ⟨c0, c1⟩ := hc
  have HM := Lib.hid hM
  clear hM
  have HW : Hid (worthB rows pass = decide (cutI rows < timesI 4 (gainN rows pass))) := Lib.hid rfl
  unfold Gives
  by_cases h1 : pass ≤ m
  all_goals
    try have g3 := gainN_down (rows := rows) h1
    by_cases h4 : cutI rows < timesI 4 (gainN rows pass)
    all_goals
      first
      | have HV : Hid (worthB rows pass = true) := Lib.hid (by rw [HW.out]; exact decide_eq_true h4)
      | have HV : Hid (worthB rows pass = false) := Lib.hid (by rw [HW.out]; exact decide_eq_false h4)
      clear HW
      go_enter Try.func5, Try.ntmps5
      go_wp2_with (first | (go_at_call 25; refine (live29_any _).mono ?_; rintro e w' ⟨rfl, x, rfl⟩) | (go_at_call 26; refine (gain_any _ _ _).mono ?_; rintro e w' ⟨rfl, x, rfl⟩) | (go_at_call 27; refine (rgain_any _ _ _).mono ?_; rintro e w' ⟨rfl, rfl⟩) | (go_at_call 28; refine (worth_to _ _ _ HV.out _).mono ?_; rintro e w' ⟨rfl, x, rfl⟩) | (go_at_call 29; refine (rtimes_to _ _ _ HM.out _).mono ?_; rintro e w' ⟨rfl, rfl⟩) | (go_at_call 19; refine (rcut_any _ _).mono ?_; rintro e w' ⟨rfl, rfl⟩))
      go_ret
      exact ⟨by first | rfl | (show Ending.returned (.bool (!decide (cutI rows < timesI 4 (gainN rows pass)))) = _; rw [decide_eq_false (by omega)]; rfl), by (show Grew _ _; repeat (first | exact Grew.refl _ | refine Grew.alloc ?_ _ | refine Grew.drew ?_ | refine Grew.more ?_ _))⟩
end Go.Proofs.Ytlnpiemnkpogfaa
