/- Layer 28: parts of counts by shares, by the program and by the document's own answer; its example. No condition but that bits are 64. -/
import Derived.Test.YtlnpiemnkpogfaaFrac2
import Derived.Test.YtlnpiemnkpogfaaFloat4
namespace Go.Proofs.Ytlnpiemnkpogfaa
open Go.RowKit
attribute [local go_sem] more_cell more_frozen more_more more_setCell more_of_drew more_of_drewN lt_more le_more past_cell past_cell2 past_frozen past_frozen2 past_setCell past_setCell2 mid_cell mid_frozen mid_setCell
attribute [local go_sem ↓] Go.wp_at_zero Go.wp_at_succ

attribute [local irreducible] FloatKind.decode in
theorem integral_num (nm : String) (way : Ieee.Toward) (r : Nat) (s : Bool) (m : Nat) (i : Int) (hd : FloatKind.f64.decode r = .number s m i) :
    Extern.MathFloor.toIntegral nm way #[.float .f64 r] = pure (.float .f64 (FloatKind.f64.encode (Ieee.Datum.integral way (.number s m i)))) := by
  conv => lhs; whnf
  rw [hd]
theorem arch_run (r : Nat) (h : r < 9218868437227405312) (W : World) : (callFunc 91 #[.float .f64 r]).run Try.prog W = .ok (.value (.float .f64 (rndR (ceilR r) 0))) W := by
  rw [run_callFunc_extern Try.func91 (by kernel_rfl) (by kernel_rfl) (by kernel_rfl) (e := Extern.MathFloor.toIntegral "math.archCeil" .up) (by kernel_rfl)]
  obtain ⟨m, a, e1, e2⟩ := read_pos h
  have hd : FloatKind.f64.decode r = .number false m (-1074 + (a : Int)) := e1
  have hw : FloatKind.f64.encode (Ieee.Datum.integral .up (.number false m (-1074 + (a : Int)))) = rndR (ceilR r) 0 := by
    show Ieee.double.nearest false (Ieee.Toward.up.cut false (m <<< (-1074 + (a : Int)).toNat) (-(-1074 + (a : Int))).toNat) 0 = _
    rw [ceil_read e2, nearest_word, word_val]
    simp
  rw [integral_num _ _ _ _ _ _ hd, hw]
  rfl
theorem ceil_any (r : Nat) (h : r < 9218868437227405312) (w : World) : Calls Try.prog 82 #[.float .f64 r] w fun e w' => e = .returned (.float .f64 (rndR (ceilR r) 0)) ∧ w' = w := by
  have ha := arch_run r h
  clear h
  generalize rndR (ceilR r) 0 = q at *
  go_enter Try.func82, Try.ntmps82
  go_wp2
  go_ret
  exact ⟨rfl, rfl⟩
theorem toint_run (r : Nat) (h : r < 9218868437227405312) (hf : floorR r ≤ 9223372036854775807) (W : World) : (convert 29 3 (.float .f64 r)).run Try.prog W = .ok (.int .i64 (floorR r : Int)) W := by
  refine run_convert_float_int W _ _ _ _ _ _ (by kernel_rfl) Try.underlying3 ?_
  obtain ⟨m, a, e1, e2⟩ := read_pos h
  have hd : (FloatKind.f64.decode r).toInt .zero = some (floorR r : Int) := by
    show (Ieee.double.read r).toInt .zero = _
    rw [e1]
    show some (Ieee.signed false (Ieee.Toward.zero.cut false (m <<< (-1074 + (a : Int)).toNat) (-(-1074 + (a : Int))).toNat) 0) = _
    rw [floor_read false e2, signed_sg]
    unfold sgI
    simp
  unfold floatToIntVal
  rw [hd]
  simp only
  rw [if_pos]
  constructor
  · show (-9223372036854775808 : Int) ≤ _; omega
  · show _ ≤ (9223372036854775807 : Int); omega
theorem rungv_ten (e : Nat) : rungv ((e + 11) * 4503599627370496) = 4503599627370496 * 2 ^ (e + 10) := by
  unfold rungv
  rw [if_neg (by omega), Nat.mul_div_cancel _ (by omega), Nat.mul_mod_left, Nat.add_zero]
  rfl
theorem rep_most : Rep 4611686018427387904 := by
  refine ⟨(eT + 11) * 4503599627370496, by rw [eT_eq]; decide, ?_⟩
  rw [rungv_ten, unitT_eq, Nat.pow_add 2 eT 10]
  generalize 2 ^ eT = z
  omega
theorem rndR_up {m n : Nat} (h : m ≤ n) : rndR m 0 ≤ rndR n 0 := rndR_mono 0 (by omega) (by omega) (by simpa using h)
/-- The float of a count. -/
def cntR (n : Int) : Nat := rndR (cutI n).toNat 0
theorem cntR_lt (n : Int) : cntR n < 9218868437227405312 := rndR_small (by have := cutI_s n; unfold sI at this; omega)
theorem intB_cut (n : Int) : floatOfInt .f64 (cutI n) = cntR n := by
  have hs := cutI_s n
  unfold sI at hs
  rw [float_int]
  unfold intB cntR
  have : (cutI n).natAbs = (cutI n).toNat := by omega
  rw [decide_eq_false (by omega), word_val, this, if_neg (by decide)]
def prodR (n : Int) (f : Nat) : Nat := mulR (cntR n) (cleanB f)
/-- The float of the greatest count. -/
def topR : Nat := rndR 4611686018427387904 0
theorem topR_is : topR < 9218868437227405312 ∧ rungv topR = 4611686018427387904 * unitT := rep_round rep_most
theorem cntR_le (n : Int) : cntR n ≤ topR := by
  have hs := cutI_s n
  unfold sI at hs
  exact rndR_up (by omega)
theorem prodR_le (n : Int) (f : Nat) : prodR n f ≤ topR := Nat.le_trans (mulR_le (cntR_lt n) (cleanB_le f)) (cntR_le n)
attribute [irreducible] topR
theorem prodR_lt (n : Int) (f : Nat) : prodR n f < 9218868437227405312 := by
  have h1 := prodR_le n f
  have h2 := topR_is.1
  omega
theorem ceil_top : ceilR topR = 4611686018427387904 := by
  unfold ceilR
  rw [topR_is.2]
  exact ceilN_eq unitT_pos (Nat.le_refl _) (by have := unitT_pos; omega)
theorem ceil_most (n : Int) (f : Nat) : ceilR (prodR n f) ≤ 4611686018427387904 := by
  have h1 : ceilR (prodR n f) ≤ ceilR topR := ceilN_mono unitT_pos (rungv_le (prodR_le n f))
  rw [ceil_top] at h1
  exact h1
theorem floor_rep {k : Nat} (h : Rep k) : floorR (rndR k 0) = k := by
  unfold floorR
  rw [(rep_round h).2, Nat.mul_div_cancel _ unitT_pos]
theorem mul_run (x y r : Nat) (h : Ieee.double.mul x y = some r) (W : World) : (binOp .mul 29 (.float .f64 x) (.float .f64 y)).run Try.prog W = .ok (.float .f64 r) W :=
  run_float_arith W .mul _ .f64 x y r h
/-- So much of n, rounded up. -/
def scaleI (n : Int) (f : Nat) : Int := min (cutI n) (ceilR (prodR n f) : Int)
theorem scale_any (n : Int) (f : Nat) (hf : f < 18446744073709551616) (w : World) : Calls Try.prog 43 #[.int .i64 n, .float .f64 f] w fun e w' => e = .returned (.int .i64 (scaleI n f)) ∧ w' = w := by
  have hi := intB_cut n
  have hm := mul_run _ _ _ (mul_some (cntR_lt n) (show cleanB f < 9218868437227405312 by have := cleanB_le f; omega))
  have hp := prodR_lt n f
  have hc := ceil_most n f
  have hrep := rep_ceil hp
  have ht := toint_run (rndR (ceilR (prodR n f)) 0) (rep_round hrep).1 (by rw [floor_rep hrep]; omega)
  rw [floor_rep hrep] at ht
  have HM : ∀ W : World, (binOp .mul 29 (.float .f64 (cntR n)) (.float .f64 (cleanB f))).run Try.prog W = .ok (.float .f64 (prodR n f)) W := hm
  have HC := Lib.hid (ceil_any (prodR n f) hp)
  have HF := Lib.hid (clean_any f hf)
  unfold scaleI
  clear hm hp hrep hf hc
  generalize prodR n f = p at *
  generalize ceilR p = k at *
  generalize rndR k 0 = q at *
  generalize cleanB f = y at *
  generalize cntR n = x at *
  go_enter Try.func43, Try.ntmps43
  go_wp2_with (first | (go_at_call 72; refine (cut_any _ _).mono ?_; rintro e w' ⟨rfl, rfl⟩) | (go_at_call 30; refine (HF.out _).mono ?_; rintro e w' ⟨rfl, rfl⟩) | (go_at_call 82; refine (HC.out _).mono ?_; rintro e w' ⟨rfl, rfl⟩))
  go_ret
  exact ⟨rfl, rfl⟩
theorem rscale_any (n : Int) (f : Nat) (hf : f < 18446744073709551616) (w : World) : Calls Try.prog 44 #[.int .i64 n, .float .f64 f] w fun e w' => e = .returned (.int .i64 (scaleI n f)) ∧ w' = w := by
  have hi := intB_cut n
  have hm := mul_run _ _ _ (mul_some (cntR_lt n) (show cleanB f < 9218868437227405312 by have := cleanB_le f; omega))
  have hp := prodR_lt n f
  have hc := ceil_most n f
  have hcf := ceil_floor (prodR n f)
  have hfl : floorR (prodR n f) ≤ 4611686018427387904 := by split at hcf <;> omega
  have hrep := rep_floor hp
  have hrr := rep_round hrep
  have ht := toint_run (prodR n f) hp (by omega)
  have HM : ∀ W : World, (binOp .mul 29 (.float .f64 (cntR n)) (.float .f64 (cleanB f))).run Try.prog W = .ok (.float .f64 (prodR n f)) W := hm
  have HF := Lib.hid (rclean_any f hf)
  have hk : floatOfInt .f64 (floorR (prodR n f) : Int) = rndR (floorR (prodR n f)) 0 := by
    rw [float_int]
    unfold intB
    rw [decide_eq_false (by omega), word_val, if_neg (by decide), Int.natAbs_natCast]
  have hord : FloatKind.f64.format.order (rndR (floorR (prodR n f)) 0) (prodR n f) = if floorR (prodR n f) * unitT < rungv (prodR n f) then some .lt else some .eq := by
    rw [ord_pos (by omega) (by omega)]
    have hle := floor_le (prodR n f)
    rw [← hrr.2] at hle ⊢
    split
    · rename_i h
      congr 1
      refine cmp_lt ?_
      rcases Nat.lt_or_ge (rndR (floorR (prodR n f)) 0) (prodR n f) with h1 | h1
      · exact h1
      · have := rungv_le h1; omega
    · rename_i h
      have : rndR (floorR (prodR n f)) 0 = prodR n f := rungv_inj (by omega)
      rw [this]
      congr 1
      exact Nat.compare_eq_eq.2 rfl
  have hs := cutI_s n
  unfold sI at hs
  obtain ⟨s0, s1⟩ := hs
  unfold scaleI
  clear hm hp hrep hrr hf
  rw [hcf] at hc ⊢
  clear hcf
  by_cases hb : floorR (prodR n f) * unitT < rungv (prodR n f)
  · rw [if_pos hb] at hord hc ⊢
    clear hb
    generalize prodR n f = p at *
    generalize floorR p = k at *
    generalize rndR k 0 = q at *
    generalize cleanB f = y at *
    generalize cntR n = x at *
    go_enter Try.func44, Try.ntmps44
    go_wp2_with (first | (go_at_call 19; refine (rcut_any _ _).mono ?_; rintro e w' ⟨rfl, rfl⟩) | (go_at_call 33; refine (HF.out _).mono ?_; rintro e w' ⟨rfl, rfl⟩))
    all_goals
      go_ret
      exact ⟨ret_int (by omega), rfl⟩
  · rw [if_neg hb] at hord hc ⊢
    clear hb
    generalize prodR n f = p at *
    generalize floorR p = k at *
    generalize rndR k 0 = q at *
    generalize cleanB f = y at *
    generalize cntR n = x at *
    go_enter Try.func44, Try.ntmps44
    go_wp2_with (first | (go_at_call 19; refine (rcut_any _ _).mono ?_; rintro e w' ⟨rfl, rfl⟩) | (go_at_call 33; refine (HF.out _).mono ?_; rintro e w' ⟨rfl, rfl⟩))
    all_goals
      go_ret
      exact ⟨ret_int (by omega), rfl⟩
theorem scaleI_s (n : Int) (f : Nat) : 0 ≤ scaleI n f ∧ scaleI n f ≤ cutI n := by
  have := cutI_s n
  unfold sI at this
  unfold scaleI
  omega
theorem scaleI_up {n m : Int} {f g : Nat} (h : cutI n ≤ cutI m) (hf : cleanB f ≤ cleanB g) : scaleI n f ≤ scaleI m g := by
  have h1 := rungv_le hf
  have h2 : rungv (cntR n) ≤ rungv (cntR m) := rungv_le (rndR_up (by have := cutI_s n; have := cutI_s m; unfold sI at *; omega))
  have c1 := cleanB_le f
  have c2 := cleanB_le g
  have h3 : prodR n f ≤ prodR m g := mulR_mono (cntR_lt n) (by omega) (cntR_lt m) (by omega) (Nat.mul_le_mul h2 h1)
  have h4 : ceilR (prodR n f) ≤ ceilR (prodR m g) := ceilN_mono unitT_pos (rungv_le h3)
  unfold scaleI
  omega
end Go.Proofs.Ytlnpiemnkpogfaa
