/- Layer 3: the document's own sum of any numbers. Condition: not more than a million numbers, each of 64 bits. -/
import Derived.Test.YtddambfniaiogaaArith5
namespace Go.Proofs.Ytddambfniaiogaa
open Go.RowKit
attribute [local go_sem] more_cell more_frozen more_more more_setCell more_of_drew more_of_drewN lt_more le_more past_cell past_cell2 past_frozen past_frozen2 past_setCell past_setCell2 mid_cell mid_frozen mid_setCell
attribute [local go_sem ↓] Go.wp_at_zero Go.wp_at_succ

def sumL (l : List Int) : Int := l.foldl (· + ·) 0
theorem sumL_take (l : List Int) (k : Nat) (h : k < l.length) : sumL (l.take (k + 1)) = sumL (l.take k) + l[k] := by
  unfold sumL
  rw [List.take_succ_eq_append_getElem h, List.foldl_append]
  rfl
theorem sum_bound (l : List Int) (hi : ∀ z ∈ l, isI z) (k : Nat) : -(9223372036854775808 * (k : Int)) ≤ sumL (l.take k) ∧ sumL (l.take k) ≤ 9223372036854775808 * (k : Int) := by
  induction k with
  | zero => simp [sumL]
  | succ k ih =>
    by_cases h : k < l.length
    · rw [sumL_take l k h]
      have hz := hi _ (List.getElem_mem h)
      unfold isI at hz
      omega
    · rw [List.take_of_length_le (by omega)]
      rw [List.take_of_length_le (by omega)] at ih
      omega
theorem big_next (S z : Int) (hz : isI z) (hS : -9223372036854775808000000 ≤ S ∧ S ≤ 9223372036854775808000000) :
    wrap64 (wrap64 (hi32 S + wrap64 ((wrap64 (z - lo32 z)).tdiv 4294967296)) + (lo32 S + lo32 z) / 4294967296) = hi32 (S + z) := by
  unfold isI at hz
  have e1 : z - lo32 z = 4294967296 * hi32 z := by unfold lo32 hi32; omega
  have e2 : wrap64 (4294967296 * hi32 z) = 4294967296 * hi32 z := by unfold wrap64 hi32; omega
  rw [e1, e2, Int.mul_tdiv_cancel_left _ (by omega)]
  unfold wrap64 hi32 lo32
  omega
theorem low_next (S z : Int) : (lo32 S + lo32 z) % 4294967296 = lo32 (S + z) := by unfold lo32; omega
theorem and_mask (z : Int) : bits .and .i64 z 4294967295 = lo32 z := by
  show IntKind.i64.wrap ((BitVec.ofInt 64 z &&& BitVec.ofInt 64 4294967295).toNat : Int) = _
  rw [BitVec.toNat_and, IntKind.wrap_i64]
  have e2 : (BitVec.ofInt 64 4294967295).toNat = 2 ^ 32 - 1 := by decide
  rw [e2, Nat.and_two_pow_sub_one_eq_mod, BitVec.toNat_ofInt]
  unfold lo32
  omega
def SumAt (l : List Int) (w : World) (T : TypeId) (i : Value) (wr : World) : Prop :=
  ∃ (k : Nat) (x : Xs), k ≤ l.length ∧ i = .int .i64 k ∧ wr = more ((w.alloc (.cells #[.int .i64 0, .int .i64 0] T)).alloc (.cells #[.int .i64 (hi32 (sumL (l.take k))), .int .i64 (lo32 (sumL (l.take k)))] T)) x
set_option maxHeartbeats 1000000 in
theorem rsum_any (l : List Int) (A : Option Addr) (c : Nat) (hl : l.length ≤ 1000000) (hi : ∀ z ∈ l, isI z) (w : World) (hr : Row w A (l.map (Value.int .i64))) :
    Gives Try.prog 161 #[.slice A l.length c] w (.agg #[.int .i64 (hi32 (sumL l)), .int .i64 (lo32 (sumL l))]) := by
  unfold Gives
  have HR := Lib.hid hr
  clear hr
  go_enter Try.func161, Try.ntmps161
  go_wp2
  go_loopw [4] (fun i wr => SumAt l w 188 i wr) (fun i _ => l.length - (intOf i).toNat)
  case atStart => exact ⟨0, ⟨#[], w.drawn⟩, Nat.zero_le _, rfl, (more_self _).symm⟩
  case round =>
    obtain ⟨k, x, hk, rfl, rfl⟩ := hrel
    by_cases h : k < l.length
    · obtain ⟨b, o, rfl, hb, hc⟩ := HR.out.at_ (k := k) (by simpa using h)
      simp only [List.getElem_map] at hc
      have hb1 : b < w.heap.size + 1 := by omega
      have hb2 : b < w.heap.size + 1 + 1 := by omega
      have hz : l[k] ∈ l := List.getElem_mem h
      have HI := Lib.hid (hi _ hz)
      have HS := Lib.hid (sumL_take l k h)
      clear hz
      generalize l[k] = z1 at *
      have e1 := and_mask z1
      generalize hS : sumL (l.take k) = S at *
      have hs0 : 0 ≤ lo32 S := by unfold lo32; omega
      have hs1 : lo32 S < 4294967296 := by unfold lo32; omega
      have hz0 : 0 ≤ lo32 z1 := by unfold lo32; omega
      have hz1 : lo32 z1 < 4294967296 := by unfold lo32; omega
      go_wp2
      refine wp_region_more_tail 11 (by kernel_rfl) (by kernel_rfl) ?_
      simp only [List.take_succ_cons, List.take_zero, List.drop_succ_cons, List.drop_zero]
      repeat (go_big_quiet_step ((fail)))
      refine wpQuiet_nil ?_
      rintro _ ⟨z, rfl⟩
      go_wp2
      go_roundw
      case rel =>
        have hb := sum_bound l hi k
        rw [hS] at hb
        have e3 := big_next S z1 HI.out (by omega)
        have e4 := low_next S z1
        rw [e3, e4]
        exact ⟨k + 1, _, by omega, by go_num, by rw [HS.out]⟩
      case measure => simp [intOf]; omega
    · have hk' : k = l.length := by omega
      subst hk'
      simp only [List.take_length]
      go_wp2
      exact bodyPost_ret (v := .agg #[.int .i64 (hi32 (sumL l)), .int .i64 (lo32 (sumL l))]) (by simp [results, Try.results161, go_sem]) rfl ⟨rfl, by show Grew w _; repeat (first | exact Grew.refl _ | apply Grew.more | apply Grew.alloc | apply Grew.drew)⟩
end Go.Proofs.Ytddambfniaiogaa
