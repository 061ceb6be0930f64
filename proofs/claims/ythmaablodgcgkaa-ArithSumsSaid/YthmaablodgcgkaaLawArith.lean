/- The laws of layer 3 but the sums': each returns true. Condition: numbers of 64 bits. -/
import Derived.Test.YthmaablodgcgkaaArith4
import Derived.Test.YthmaablodgcgkaaArith6
namespace Go.Proofs.Ythmaablodgcgkaa
open Go.RowKit
attribute [local go_sem] more_cell more_frozen more_more more_setCell more_of_drew more_of_drewN lt_more le_more past_cell past_cell2 past_frozen past_frozen2 past_setCell past_setCell2 mid_cell mid_frozen mid_setCell
attribute [local go_sem ↓] Go.wp_at_zero Go.wp_at_succ
theorem code3_any (e : Int) (w : World) : Calls Try.prog 52 #[.int .i64 e] w fun r w' => r = .returned (.int .i64 e) ∧ w' = w := by
  go_enter Try.func52, Try.ntmps52
  go_wp2
  go_ret
  exact ⟨rfl, rfl⟩
theorem plusS_is {h lo n z m : Int} (e1 : h = H z) (e2 : lo = L z) (hm : isI m) (h0 : 0 ≤ n) (h1 : n ≤ 100000) (w : World) :
    Gives Try.prog 53 #[.agg #[.int .u64 h, .int .u64 lo, .int .i64 n], .int .i64 m] w (.agg #[.int .u64 (H (z + m)), .int .u64 (L (z + m)), .int .i64 (n + 1)]) := by
  subst e1 e2
  exact plusS_any z n m hm h0 h1 w
theorem add_is {a b v : Int} {f : Bool} (ha : isI a) (hb : isI b) (e1 : fitV (a + b) = v) (e2 : fits (a + b) = f) (w : World) :
    Gives Try.prog 43 #[.int .i64 a, .int .i64 b] w (.tuple #[.int .i64 v, .bool f]) := by
  subst e1 e2
  exact add_any a b ha hb w
theorem total_is {h lo z n v : Int} (e1 : h = H z) (e2 : lo = L z) (hz : isW z) (e3 : fitV z = v) (e4 : fits z = true) (w : World) :
    Gives Try.prog 54 #[.agg #[.int .u64 h, .int .u64 lo, .int .i64 n]] w (.tuple #[.int .i64 v, .int .i64 0]) := by
  have := totalS_any z n hz w
  rw [show errF z = 0 by unfold errF; rw [if_pos e4]] at this
  subst e1 e2 e3
  exact this
theorem plus_is {h lo n z m n' : Int} (e1 : h = H z) (e2 : lo = L z) (hm : isI m) (h0 : 0 ≤ n) (h1 : n ≤ 100000) (e3 : n + 1 = n') (w : World) :
    Gives Try.prog 53 #[.agg #[.int .u64 h, .int .u64 lo, .int .i64 n], .int .i64 m] w (.agg #[.int .u64 (H (z + m)), .int .u64 (L (z + m)), .int .i64 n']) := by
  subst e1 e2 e3
  exact plusS_any z n m hm h0 h1 w
def big : Int := 9223372036854775807
theorem live3_one (w : World) : Gives Try.prog 43 #[.int .i64 9223372036854775807, .int .i64 1] w (.tuple #[.int .i64 0, .bool false]) :=
  add_is (by unfold isI; omega) (by unfold isI; omega) (by decide) (by decide) w
def hA : Int := H (0 + big)
def lA : Int := L (0 + big)
def hB : Int := H (0 + big + 1)
def lB : Int := L (0 + big + 1)
def hC : Int := H (0 + big + 1 + -1)
def lC : Int := L (0 + big + 1 + -1)
theorem live3_two (w : World) : Gives Try.prog 53 #[.agg #[.int .u64 0, .int .u64 0, .int .i64 0], .int .i64 9223372036854775807] w (.agg #[.int .u64 hA, .int .u64 lA, .int .i64 1]) :=
  plus_is (z := 0) (by decide) (by decide) (by unfold isI; omega) (by omega) (by omega) (by omega) w
theorem live3_three (w : World) : Gives Try.prog 53 #[.agg #[.int .u64 hA, .int .u64 lA, .int .i64 1], .int .i64 1] w (.agg #[.int .u64 hB, .int .u64 lB, .int .i64 2]) :=
  plus_is (z := 0 + big) rfl rfl (by unfold isI; omega) (by omega) (by omega) (by omega) w
theorem live3_four (w : World) : Gives Try.prog 53 #[.agg #[.int .u64 hB, .int .u64 lB, .int .i64 2], .int .i64 (-1)] w (.agg #[.int .u64 hC, .int .u64 lC, .int .i64 3]) :=
  plus_is (z := 0 + big + 1) rfl rfl (by unfold isI; omega) (by omega) (by omega) (by omega) w
theorem live3_five (w : World) : Gives Try.prog 54 #[.agg #[.int .u64 hC, .int .u64 lC, .int .i64 3]] w (.tuple #[.int .i64 9223372036854775807, .int .i64 0]) :=
  total_is (z := 0 + big + 1 + -1) rfl rfl (by unfold isW big; omega) (by decide) (by decide) w
set_option maxHeartbeats 1000000 in
theorem live3_any (w : World) : Gives Try.prog 49 #[] w (.bool true) := by
  unfold Gives
  go_enter Try.func49, Try.ntmps49
  go_wp2_with fail
  refine (live3_one _).mono ?_
  rintro e w' ⟨rfl, x, rfl⟩
  go_wp2_with fail
  refine (live3_two _).mono ?_
  rintro e w' ⟨rfl, x, rfl⟩
  go_wp2_with fail
  refine (live3_three _).mono ?_
  rintro e w' ⟨rfl, x, rfl⟩
  go_wp2_with fail
  refine (live3_four _).mono ?_
  rintro e w' ⟨rfl, x, rfl⟩
  go_wp2_with fail
  refine (live3_five _).mono ?_
  rintro e w' ⟨rfl, x, rfl⟩
  go_wp2_with (go_at_call 52; refine (code3_any _ _).mono ?_; rintro e w' ⟨rfl, rfl⟩)
  go_ret
  exact ⟨rfl, _, rfl⟩
set_option maxHeartbeats 1000000 in
theorem arithSigns_walk (a b : Int) (ha : isI a) (hb : isI b) (w : World) :
    Gives Try.prog 9 #[.int .i64 a, .int .i64 b] w (.bool true) := by
  unfold Gives
  have HA := Lib.hid ha
  have HB := Lib.hid hb
  clear ha hb
  go_enter Try.func9, Try.ntmps9
  go_wp2_with (first | (go_at_call 43; refine (add_any _ _ HA.out HB.out _).mono ?_; rintro e w' ⟨rfl, x, rfl⟩) | (go_at_call 45; refine (sub_any _ _ HA.out HB.out _).mono ?_; rintro e w' ⟨rfl, x, rfl⟩) | (go_at_call 47; refine (mul_any _ _ HA.out HB.out _).mono ?_; rintro e w' ⟨rfl, x, rfl⟩) | (go_at_call 44; refine (radd_any _ _ HA.out HB.out _).mono ?_; rintro e w' ⟨rfl, x, rfl⟩) | (go_at_call 46; refine (rsub_any _ _ HA.out HB.out _).mono ?_; rintro e w' ⟨rfl, x, rfl⟩) | (go_at_call 48; refine (rmul_any _ _ HA.out HB.out _).mono ?_; rintro e w' ⟨rfl, x, rfl⟩) | (go_at_call 49; refine (live3_any _).mono ?_; rintro e w' ⟨rfl, x, rfl⟩))
  go_ret
  exact ⟨rfl, _, rfl⟩
set_option maxHeartbeats 1000000 in
theorem arithDoes_walk (op k i : Int) (s : ByteArray) (k' i' : Int) (s' : ByteArray) (hi : isI i) (hi' : isI i') (w : World) :
    Gives Try.prog 10 #[.int .i64 op, .agg #[.int .i64 k, .int .i64 i, .string s], .agg #[.int .i64 k', .int .i64 i', .string s']] w (.bool true) := by
  unfold Gives
  have HA := Lib.hid hi
  have HB := Lib.hid hi'
  clear hi hi'
  go_enter Try.func10, Try.ntmps10
  go_wp2_with (first | (go_at_call 50; refine (do_any _ _ _ _ _ _ _ HA.out HB.out _).mono ?_; rintro e w' ⟨rfl, x, rfl⟩) | (go_at_call 51; refine (rdo_any _ _ _ _ _ _ _ HA.out HB.out _).mono ?_; rintro e w' ⟨rfl, x, rfl⟩) | (go_at_call 52; refine (code3_any _ _).mono ?_; rintro e w' ⟨rfl, rfl⟩) | (go_at_call 49; refine (live3_any _).mono ?_; rintro e w' ⟨rfl, x, rfl⟩))
  go_ret
  exact ⟨rfl, by show Grew w _; repeat (first | exact Grew.refl _ | apply Grew.more | apply Grew.alloc | apply Grew.drew)⟩
end Go.Proofs.Ythmaablodgcgkaa
