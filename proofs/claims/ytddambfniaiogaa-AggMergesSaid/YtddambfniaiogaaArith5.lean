/- Layer 3: sums that go beyond 64 bits: what each call returns. Condition: not more than a thousand numbers. -/
import Derived.Test.YtddambfniaiogaaArith3
import Derived.Test.YtddambfniaiogaaKit2
import Derived.Deep.RegionHeld3
namespace Go.Proofs.Ytddambfniaiogaa
open Go.RowKit
attribute [local go_sem] more_cell more_frozen more_more more_setCell more_of_drew more_of_drewN lt_more le_more past_cell past_cell2 past_frozen past_frozen2 past_setCell past_setCell2 mid_cell mid_frozen mid_setCell
attribute [local go_sem ↓] Go.wp_at_zero Go.wp_at_succ

set_option maxHeartbeats 1000000 in
theorem plusS_any (z n m : Int) (hm : isI m) (h0 : 0 ≤ n) (h1 : n ≤ 100000) (w : World) :
    Gives Try.prog 106 #[.agg #[.int .u64 (H z), .int .u64 (L z), .int .i64 n], .int .i64 m] w (.agg #[.int .u64 (H (z + m)), .int .u64 (L (z + m)), .int .i64 (n + 1)]) := by
  unfold Gives
  have HM := Lib.hid hm
  clear hm
  have hc : ∀ w' : World, Grew ((w.alloc (.cells #[.int .u64 (H z), .int .u64 (L z), .int .i64 n] 56)).alloc (.cells #[.int .u64 0, .int .u64 0, .int .i64 0] 56)) w' →
      w'.cell? ⟨w.heap.size, 0, none⟩ = some (.int .u64 (H z)) ∧ w'.cell? ⟨w.heap.size, 1, none⟩ = some (.int .u64 (L z)) ∧ w'.cell? ⟨w.heap.size, 2, none⟩ = some (.int .i64 n) := fun w' hg => by
    obtain ⟨x, rfl⟩ := hg
    rw [more_cell _ _ _ (by simp; omega), more_cell _ _ _ (by simp; omega), more_cell _ _ _ (by simp; omega)]
    refine ⟨?_, ?_, ?_⟩ <;> go_simp
  have HC := Lib.hid hc
  clear hc
  go_enter Try.func106, Try.ntmps106
  go_wp2
  go_region_held3 (fun w' => w'.cell? ⟨w.heap.size, 0, none⟩ = some (.int .u64 (H z)) ∧ w'.cell? ⟨w.heap.size, 1, none⟩ = some (.int .u64 (L z)) ∧ w'.cell? ⟨w.heap.size, 2, none⟩ = some (.int .i64 n)) (first | go_keep | (refine HC.out _ ?_; repeat (first | exact Grew.refl _ | apply Grew.more | apply Grew.alloc | apply Grew.drew)))
    (first | (go_at_call 165; refine (widen_any _ HM.out _).mono ?_; rintro e w' ⟨rfl, x, rfl⟩) | (go_at_call 164; refine (plus_any _ _ _).mono ?_; rintro e w' ⟨rfl, x, rfl⟩))
  all_goals go_wp2
  all_goals
    exact bodyPost_ret (v := .agg #[.int .u64 (H (z + m)), .int .u64 (L (z + m)), .int .i64 (n + 1)]) (by simp [results, Try.results106, go_sem]) rfl ⟨rfl, by show Grew w _; repeat (first | exact Grew.refl _ | apply Grew.more | apply Grew.alloc | apply Grew.drew)⟩
/-- The error of a sum: 0, or that it is too great. -/
def errF (z : Int) : Int := if fits z then 0 else 5
theorem errF_zero (z : Int) : (errF z == 0) = fits z := by unfold errF; cases fits z <;> rfl
theorem errF_five (z : Int) : (errF z == 5) = !fits z := by unfold errF; cases fits z <;> rfl
set_option maxHeartbeats 1000000 in
theorem totalS_any (z n : Int) (hz : isW z) (w : World) :
    Gives Try.prog 168 #[.agg #[.int .u64 (H z), .int .u64 (L z), .int .i64 n]] w (.tuple #[.int .i64 (fitV z), .int .i64 (errF z)]) := by
  unfold Gives
  have HZ := Lib.hid hz
  clear hz
  cases hf : fits z
  all_goals
    go_enter Try.func168, Try.ntmps168
    go_wp2_with (first | (go_at_call 197; refine (narrow_any _ HZ.out _).mono ?_; rintro e w' ⟨rfl, x, rfl⟩))
    go_ret2
    exact ⟨by simp [fitV, hf, errF], Grew.more ((Grew.refl w).alloc _) _⟩
set_option maxHeartbeats 1000000 in
theorem joinS_any (z n y m : Int) (h0 : 0 ≤ n) (h1 : n ≤ 100000) (h2 : 0 ≤ m) (h3 : m ≤ 100000) (w : World) :
    Gives Try.prog 113 #[.agg #[.int .u64 (H z), .int .u64 (L z), .int .i64 n], .agg #[.int .u64 (H y), .int .u64 (L y), .int .i64 m]] w (.agg #[.int .u64 (H (z + y)), .int .u64 (L (z + y)), .int .i64 (n + m)]) := by
  unfold Gives
  go_enter Try.func113, Try.ntmps113
  go_wp2_with (first | (go_at_call 164; refine (plus_any _ _ _).mono ?_; rintro e w' ⟨rfl, x, rfl⟩))
  exact bodyPost_ret (v := .agg #[.int .u64 (H (z + y)), .int .u64 (L (z + y)), .int .i64 (n + m)]) (by simp [results, Try.results113, go_sem]) rfl ⟨rfl, by show Grew w _; repeat (first | exact Grew.refl _ | apply Grew.more | apply Grew.alloc | apply Grew.drew)⟩
/-- A sum as two parts: the upper one, and the lower one, of 32 bits. -/
def hi32 (z : Int) : Int := z / 4294967296
def lo32 (z : Int) : Int := z % 4294967296
set_option maxHeartbeats 1000000 in
theorem rtotal_any (z : Int) (w : World) :
    Gives Try.prog 160 #[.agg #[.int .i64 (hi32 z), .int .i64 (lo32 z)]] w (.tuple #[.int .i64 (fitV z), .bool (fits z)]) := by
  unfold Gives
  have hz : z = hi32 z * 4294967296 + lo32 z := by unfold hi32 lo32; omega
  have hl : 0 ≤ lo32 z ∧ lo32 z < 4294967296 := by unfold lo32; omega
  have H1 := Lib.hid hz
  have H2 := Lib.hid hl
  clear hz hl
  generalize hi32 z = b at *
  generalize lo32 z = s at *
  go_enter Try.func160, Try.ntmps160
  go_wp2
  all_goals
    go_ret2
    have hz := H1.out
    have hl := H2.out
    first
      | exact ⟨ret_nofit (fits_no _ (by unfold isI; omega)), (Grew.refl w).alloc _⟩
      | exact ⟨ret_fit ((fits_iff _).2 (by unfold isI; omega)) (by unfold wrap64; omega), (Grew.refl w).alloc _⟩
end Go.Proofs.Ytddambfniaiogaa
