/- Layer 3's functions and the document's own answers for it: what each call returns. Conditions: numbers of 64 bits where it says so. -/
import Derived.Test.YtfdjnhnchibejaaLawVal
import Derived.Test.YtfdjnhnchibejaaArithMath
import Derived.Laws.Externs
import Derived.Shelf.Spec.BitsCarry
namespace Go.Proofs.Ytfdjnhnchibejaa
open Go.RowKit
attribute [local go_sem] more_cell more_frozen more_more more_size more_setCell
attribute [local go_sem ↓] Go.wp_at_zero Go.wp_at_succ

theorem add64_call (x y c : Int) (hx : 0 ≤ x) (hy : 0 ≤ y) (hc0 : 0 ≤ c) (hc : c ≤ 1) (w : World) : (callFunc 241 #[.int .u64 x, .int .u64 y, .int .u64 c]).run Try.prog w =
    .ok (.value (.tuple #[.int .u64 ((x + y + c) % 18446744073709551616), .int .u64 ((x + y + c) / 18446744073709551616)])) w := by
  rw [run_callFunc_extern Try.func241 (by kernel_rfl) (by kernel_rfl) (by kernel_rfl) (e := add64Entry) (by kernel_rfl), run_add64 x y c hx hy hc0 hc]
  simp only [Result.andThen]
theorem add_lo (x y : Int) (w : World) : (callFunc 241 #[.int .u64 (L x), .int .u64 (L y), .int .u64 0]).run Try.prog w = .ok (.value (.tuple #[.int .u64 (L (x + y)), .int .u64 (Cy x y)])) w := by
  rw [add64_call _ _ _ (L_lo x) (L_lo y) (by omega) (by omega), Int.add_zero, L_add]
  rfl
theorem mul64_call (x y : Int) (w : World) : Calls Try.prog 239 #[.int .u64 (L x), .int .u64 (L y)] w fun e w' => e = .returned (.tuple #[.int .u64 (Mh x y), .int .u64 (L (x * y))]) ∧ w' = w := by
  have hx := L_lo x
  have hy := L_lo y
  have hx' := L_hi x
  have hy' := L_hi y
  have e1 := L_mul x y
  unfold Mh
  generalize L x = X at *
  generalize L y = Y at *
  obtain ⟨X, rfl⟩ := Int.eq_ofNat_of_zero_le hx
  obtain ⟨Y, rfl⟩ := Int.eq_ofNat_of_zero_le hy
  refine (Try.bits_Mul64 X Y (by omega) (by omega) w).mono fun e w' ⟨he, hw⟩ => ⟨?_, hw⟩
  rw [he, ← e1]
  simp only [Int.natCast_ediv, Int.natCast_emod, Int.natCast_mul]
  rfl

/-- Two pairs of numbers of 64 bits compared. -/
theorem wide_eq (a b c d : Int) (w : World) : (Op.equalIn 10000 228 (.agg #[.int .u64 a, .int .u64 b]) (.agg #[.int .u64 c, .int .u64 d])).run Try.prog w = .ok (a == c && b == d) w := by
  have u3 := Try.underlying177
  have a3 := Try.isAgg177
  have z3 := Try.sizeOf177
  rw [show (10000 : Nat) = 9999 + 1 from rfl, Op.equalIn]
  simp only [Sem.run_bind, run_underlying Try.underlying228, Result.andThen_ok]
  simp only [Std.Legacy.Range.forIn_eq_forIn_range', Std.Legacy.Range.size, Nat.sub_zero, Nat.add_sub_cancel, Nat.div_one, List.range'_succ, List.range'_zero, List.forIn_cons, List.forIn_nil]
  go_simp
  by_cases h1 : a = c <;> by_cases h2 : b = d <;> simp [h1, h2]
set_option maxHeartbeats 400000 in
theorem widen_any (n : Int) (hn : isI n) (w : World) :
    Gives Try.prog 227 #[.int .i64 n] w (.agg #[.int .u64 (H n), .int .u64 (L n)]) := by
  unfold Gives
  have e1 := Lib.hid (wrapu_half n hn)
  have e2 := Lib.hid (wrapu n)
  clear hn
  go_enter Try.func227, Try.ntmps227
  go_wp2
  rw [e1.out, e2.out]
  exact bodyPost_ret (v := .agg #[.int .u64 (H n), .int .u64 (L n)]) (by simp [results, Try.results227, go_sem]) rfl ⟨rfl, (Grew.refl w).alloc _⟩
set_option maxHeartbeats 400000 in
theorem plus_any (x y : Int) (w : World) :
    Gives Try.prog 226 #[.agg #[.int .u64 (H x), .int .u64 (L x)], .agg #[.int .u64 (H y), .int .u64 (L y)]] w (.agg #[.int .u64 (H (x + y)), .int .u64 (L (x + y))]) := by
  unfold Gives
  have h1 := add_lo x y
  obtain ⟨d, h2⟩ : ∃ d, ∀ w : World, (callFunc 241 #[.int .u64 (H x), .int .u64 (H y), .int .u64 (Cy x y)]).run Try.prog w = .ok (.value (.tuple #[.int .u64 (H (x + y)), .int .u64 d])) w :=
    ⟨_, fun w => by rw [add64_call _ _ _ (H_lo x) (H_lo y) (Cy_lo x y) (Cy_hi x y), H_add]⟩
  go_enter Try.func226, Try.ntmps226
  go_wp2
  exact bodyPost_ret (v := .agg #[.int .u64 (H (x + y)), .int .u64 (L (x + y))]) (by simp [results, Try.results226, go_sem]) rfl ⟨rfl, (((Grew.refl w).alloc _).alloc _).alloc _⟩
set_option maxHeartbeats 1000000 in
theorem narrow_any (z : Int) (hz : isW z) (w : World) :
    Gives Try.prog 245 #[.agg #[.int .u64 (H z), .int .u64 (L z)]] w (.tuple #[.int .i64 (fitV z), .bool (fits z)]) := by
  unfold Gives
  by_cases hf : fits z = true
  · have h1 := Lib.hid (narrow_yes z hf)
    have hI := wrap_isI (L z)
    have h2 := Lib.hid (show fitV z = z by unfold fitV; rw [if_pos hf])
    have HF := Lib.hid hf
    clear hf
    generalize hn : wrap64 (L z) = n at *
    have HN := Lib.hid hn
    clear hn
    obtain rfl : n = z := h1.out
    have hn := HN.out
    have HI := Lib.hid hI
    clear hI
    have hq := wide_eq
    go_enter Try.func245, Try.ntmps245
    go_wp2
    refine wp_region_more (by kernel_rfl) (by kernel_rfl) ?_
    repeat (go_big_quiet_step (((go_at_call 227; exact (widen_any _ HI.out _).within))))
    refine wpQuiet_nil ?_
    rintro _ ⟨z, rfl⟩
    go_wp2
    go_ret2
    exact ⟨ret_ib h2.out.symm HF.out.symm, Grew.more ((Grew.refl w).alloc _) _⟩
  · have hf' : fits z = false := by simpa using hf
    have h1 := narrow_no z hz hf'
    have hI := wrap_isI (L z)
    have h2 := Lib.hid (show fitV z = 0 by unfold fitV; rw [if_neg hf])
    have HF := Lib.hid hf'
    clear hf hf'
    generalize hn : wrap64 (L z) = n at *
    have hb : (H n == H z) = false := by simpa using h1
    have HI := Lib.hid hI
    clear hI h1 hz
    have hq := wide_eq
    go_enter Try.func245, Try.ntmps245
    go_wp2
    refine wp_region_more (by kernel_rfl) (by kernel_rfl) ?_
    repeat (go_big_quiet_step (((go_at_call 227; exact (widen_any _ HI.out _).within))))
    refine wpQuiet_nil ?_
    rintro _ ⟨z, rfl⟩
    go_wp2
    go_ret2
    exact ⟨ret_ib h2.out.symm HF.out.symm, Grew.more ((Grew.refl w).alloc _) _⟩
end Go.Proofs.Ytfdjnhnchibejaa
