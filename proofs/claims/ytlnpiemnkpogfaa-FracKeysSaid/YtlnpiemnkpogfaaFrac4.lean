/- Layer 28: the rest of a share, one of two, all of them, by the program and by the document's own answer. No condition but that bits are 64. -/
import Derived.Test.YtlnpiemnkpogfaaLawFrac
import Derived.Test.YtlnpiemnkpogfaaFloat5
namespace Go.Proofs.Ytlnpiemnkpogfaa
open Go.RowKit
attribute [local go_sem] more_cell more_frozen more_more more_setCell more_of_drew more_of_drewN lt_more le_more past_cell past_cell2 past_frozen past_frozen2 past_setCell past_setCell2 mid_cell mid_frozen mid_setCell
attribute [local go_sem ↓] Go.wp_at_zero Go.wp_at_succ

def notB (f : Nat) : Nat := (Ieee.double.sub 4607182418800017408 (cleanB f)).getD 0
theorem notB_is (f : Nat) : Ieee.double.sub 4607182418800017408 (cleanB f) = some (notB f) ∧ notB f ≤ 4607182418800017408 := by
  obtain ⟨r, h1, h2⟩ := sub_one (cleanB_le f)
  unfold notB
  rw [h1]
  exact ⟨rfl, h2⟩
theorem sub_run (x y r : Nat) (h : Ieee.double.sub x y = some r) (W : World) : (binOp .sub 29 (.float .f64 x) (.float .f64 y)).run Try.prog W = .ok (.float .f64 r) W :=
  run_float_arith W .sub _ .f64 x y r h
theorem add_run (x y r : Nat) (h : Ieee.double.add x y = some r) (W : World) : (binOp .add 29 (.float .f64 x) (.float .f64 y)).run Try.prog W = .ok (.float .f64 r) W :=
  run_float_arith W .add _ .f64 x y r h
theorem not_any (f : Nat) (hf : f < 18446744073709551616) (w : World) : Calls Try.prog 37 #[.float .f64 f] w fun e w' => e = .returned (.float .f64 (notB f)) ∧ w' = w := by
  have hs := sub_run _ _ _ (notB_is f).1
  have HC := Lib.hid (clean_any f hf)
  clear hf
  generalize notB f = r at *
  generalize cleanB f = c at *
  go_enter Try.func37, Try.ntmps37
  go_wp2_with (go_at_call 30; refine (HC.out _).mono ?_; rintro e w' ⟨rfl, rfl⟩)
  go_ret
  exact ⟨rfl, rfl⟩
theorem rnot_any (f : Nat) (hf : f < 18446744073709551616) (w : World) : Calls Try.prog 40 #[.float .f64 f] w fun e w' => e = .returned (.float .f64 (notB f)) ∧ w' = w := by
  have hs := sub_run _ _ _ (notB_is f).1
  have HC := Lib.hid (rclean_any f hf)
  clear hf
  generalize notB f = r at *
  generalize cleanB f = c at *
  go_enter Try.func40, Try.ntmps40
  go_wp2_with (go_at_call 33; refine (HC.out _).mono ?_; rintro e w' ⟨rfl, rfl⟩)
  go_ret
  exact ⟨rfl, rfl⟩
theorem mulR_share {x y : Nat} (hx : x ≤ 4607182418800017408) (hy : y ≤ 4607182418800017408) : mulR x y ≤ 4607182418800017408 := Nat.le_trans (mulR_le (by omega) hy) hx
/-- One of two shares. -/
def orB (a b : Nat) : Nat := cleanB ((Ieee.double.sub ((Ieee.double.add (cleanB a) (cleanB b)).getD 0) (mulR (cleanB a) (cleanB b))).getD 0)
theorem orB_is (a b : Nat) : ∃ s t, Ieee.double.add (cleanB a) (cleanB b) = some s ∧ Ieee.double.sub s (mulR (cleanB a) (cleanB b)) = some t ∧ t < 18446744073709551616 ∧ cleanB t = orB a b := by
  obtain ⟨s, h1, h2⟩ := add_share (cleanB_le a) (cleanB_le b)
  have h3 := mulR_share (cleanB_le a) (cleanB_le b)
  obtain ⟨t, h4⟩ := sub_fin (x := s) (y := mulR (cleanB a) (cleanB b)) (by rw [rung_pos h2]; exact h2) (by rw [rung_pos (by omega)]; omega)
  refine ⟨s, t, h1, h4, sub_lt h4, ?_⟩
  unfold orB
  rw [h1, Option.getD_some, h4, Option.getD_some]
theorem orB_comm (a b : Nat) : orB b a = orB a b := by
  unfold orB
  rw [add_comm (cleanB b), mulR_comm (cleanB b)]
theorem or_any (a b : Nat) (ha : a < 18446744073709551616) (hb : b < 18446744073709551616) (w : World) : Calls Try.prog 38 #[.float .f64 a, .float .f64 b] w fun e w' => e = .returned (.float .f64 (orB a b)) ∧ w' = w := by
  obtain ⟨s, t, h1, h2, h3, h4⟩ := orB_is a b
  have hA := add_run _ _ _ h1
  have hS := sub_run _ _ _ h2
  have hm := mul_run _ _ _ (mul_some (show cleanB a < 9218868437227405312 by have := cleanB_le a; omega) (show cleanB b < 9218868437227405312 by have := cleanB_le b; omega))
  have HC := Lib.hid (clean_any a ha)
  have HD := Lib.hid (clean_any b hb)
  have HT := Lib.hid (clean_to t _ h3 h4)
  clear ha hb h1 h2 h3 h4
  generalize orB a b = r at *
  generalize cleanB a = x at *
  generalize cleanB b = y at *
  generalize mulR x y = p at *
  go_enter Try.func38, Try.ntmps38
  go_wp2_with (first | (go_at_call 30; (with_reducible refine (HC.out _).mono ?_); rintro e w' ⟨rfl, rfl⟩) | (go_at_call 30; (with_reducible refine (HD.out _).mono ?_); rintro e w' ⟨rfl, rfl⟩) | (go_at_call 30; (with_reducible refine (HT.out _).mono ?_); rintro e w' ⟨rfl, rfl⟩))
  go_ret
  exact ⟨rfl, rfl⟩
theorem ror_any (a b : Nat) (ha : a < 18446744073709551616) (hb : b < 18446744073709551616) (w : World) : Calls Try.prog 41 #[.float .f64 a, .float .f64 b] w fun e w' => e = .returned (.float .f64 (orB a b)) ∧ w' = w := by
  obtain ⟨s, t, h1, h2, h3, h4⟩ := orB_is a b
  have hA := add_run _ _ _ h1
  have hS := sub_run _ _ _ h2
  have hm := mul_run _ _ _ (mul_some (show cleanB a < 9218868437227405312 by have := cleanB_le a; omega) (show cleanB b < 9218868437227405312 by have := cleanB_le b; omega))
  have HC := Lib.hid (rclean_any a ha)
  have HD := Lib.hid (rclean_any b hb)
  have HT := Lib.hid (rclean_to t _ h3 h4)
  clear ha hb h1 h2 h3 h4
  generalize orB a b = r at *
  generalize cleanB a = x at *
  generalize cleanB b = y at *
  generalize mulR x y = p at *
  go_enter Try.func41, Try.ntmps41
  go_wp2_with (first | (go_at_call 33; (with_reducible refine (HC.out _).mono ?_); rintro e w' ⟨rfl, rfl⟩) | (go_at_call 33; (with_reducible refine (HD.out _).mono ?_); rintro e w' ⟨rfl, rfl⟩) | (go_at_call 33; (with_reducible refine (HT.out _).mono ?_); rintro e w' ⟨rfl, rfl⟩))
  go_ret
  exact ⟨rfl, rfl⟩
/-- All shares. -/
def andF (l : List Nat) (a : Nat) : Nat := l.foldl (fun a f => mulR a (cleanB f)) a
theorem andF_le (l : List Nat) : ∀ a, a ≤ 4607182418800017408 → andF l a ≤ a := by
  induction l with
  | nil => intro a _; exact Nat.le_refl _
  | cons f l ih =>
    intro a h
    have h1 := mulR_le (x := a) (by omega) (cleanB_le f)
    have h2 := ih (mulR a (cleanB f)) (by omega)
    show andF l (mulR a (cleanB f)) ≤ a
    omega
theorem andF_part (l : List Nat) : ∀ a, a ≤ 4607182418800017408 → ∀ f ∈ l, andF l a ≤ cleanB f := by
  induction l with
  | nil => intro a _ f hf; cases hf
  | cons g l ih =>
    intro a h f hf
    have h1 := mulR_le (x := a) (by omega) (cleanB_le g)
    show andF l (mulR a (cleanB g)) ≤ cleanB f
    rcases List.mem_cons.1 hf with rfl | hf
    · have h2 := andF_le l (mulR a (cleanB f)) (by omega)
      have h3 := mulR_le (x := cleanB f) (y := a) (by have := cleanB_le f; omega) h
      rw [mulR_comm] at h3
      omega
    · exact ih _ (by omega) f hf
theorem andF_take (l : List Nat) (a : Nat) (k : Nat) (h : k < l.length) : andF (l.take (k + 1)) a = mulR (andF (l.take k) a) (cleanB l[k]) := by
  rw [List.take_succ_eq_append_getElem h]
  unfold andF
  rw [List.foldl_append]
  rfl
def AndAt (l : List Nat) (x i : Value) : Prop := ∃ k : Nat, k ≤ l.length ∧ i = .int .i64 k ∧ x = .float .f64 (andF (l.take k) 4607182418800017408)
theorem and_any (l : List Nat) (A : Option Addr) (c : Nat) (hl : l.length ≤ 1000000) (hall : ∀ x ∈ l, x < 18446744073709551616) (w : World) (hr : Row w A (l.map (Value.float .f64))) :
    Calls Try.prog 39 #[.slice A l.length c] w fun e w' => e = .returned (.float .f64 (andF l 4607182418800017408)) ∧ w' = w := by
  have HR := Lib.hid hr
  have HA := Lib.hid hall
  clear hr hall
  go_enter Try.func39, Try.ntmps39
  go_wp2
  go_loop [3, 8] (fun x i => AndAt l x i) (fun _ i => l.length - (intOf i).toNat)
  case atStart => exact ⟨0, Nat.zero_le _, rfl, rfl⟩
  case round =>
    obtain ⟨k, hk, rfl, rfl⟩ := hrel
    by_cases h : k < l.length
    · obtain ⟨b, o, rfl, hb, hc⟩ := HR.out.at_ (k := k) (by simpa using h)
      simp only [List.getElem_map] at hc
      have HT := Lib.hid (andF_take l 4607182418800017408 k h)
      have hle := andF_le (l.take k) 4607182418800017408 (by omega)
      have hm := mul_run _ _ _ (mul_some (show andF (l.take k) 4607182418800017408 < 9218868437227405312 by omega) (show cleanB l[k] < 9218868437227405312 by have := cleanB_le l[k]; omega))
      have HC := Lib.hid (clean_any l[k] (HA.out _ (List.getElem_mem h)))
      clear hle
      generalize andF (l.take k) 4607182418800017408 = x at *
      generalize cleanB l[k] = y at *
      generalize l[k] = z at *
      go_wp2_with (go_at_call 30; refine (HC.out _).mono ?_; rintro e w' ⟨rfl, rfl⟩)
      case roundEnd => exact ⟨⟨k + 1, by omega, by simp, by rw [HT.out]⟩, by simp only [intOf]; omega⟩
    · obtain rfl : k = l.length := by omega
      rw [List.take_length]
      go_wp2
      go_ret
      exact ⟨rfl, rfl⟩
theorem rand_any (l : List Nat) (A : Option Addr) (c : Nat) (hl : l.length ≤ 1000000) (hall : ∀ x ∈ l, x < 18446744073709551616) (w : World) (hr : Row w A (l.map (Value.float .f64))) :
    Calls Try.prog 42 #[.slice A l.length c] w fun e w' => e = .returned (.float .f64 (andF l 4607182418800017408)) ∧ w' = w := by
  have HR := Lib.hid hr
  have HA := Lib.hid hall
  clear hr hall
  go_enter Try.func42, Try.ntmps42
  go_wp2
  go_loop [3, 4] (fun x i => AndAt l x i) (fun _ i => l.length - (intOf i).toNat)
  case atStart => exact ⟨0, Nat.zero_le _, rfl, rfl⟩
  case round =>
    obtain ⟨k, hk, rfl, rfl⟩ := hrel
    by_cases h : k < l.length
    · obtain ⟨b, o, rfl, hb, hc⟩ := HR.out.at_ (k := k) (by simpa using h)
      simp only [List.getElem_map] at hc
      have HT := Lib.hid (andF_take l 4607182418800017408 k h)
      have hle := andF_le (l.take k) 4607182418800017408 (by omega)
      have hm := mul_run _ _ _ (mul_some (show andF (l.take k) 4607182418800017408 < 9218868437227405312 by omega) (show cleanB l[k] < 9218868437227405312 by have := cleanB_le l[k]; omega))
      have HC := Lib.hid (rclean_any l[k] (HA.out _ (List.getElem_mem h)))
      clear hle
      generalize andF (l.take k) 4607182418800017408 = x at *
      generalize cleanB l[k] = y at *
      generalize l[k] = z at *
      go_wp2_with (go_at_call 33; refine (HC.out _).mono ?_; rintro e w' ⟨rfl, rfl⟩)
      case roundEnd => exact ⟨⟨k + 1, by omega, by simp, by rw [HT.out]⟩, by simp only [intOf]; omega⟩
    · obtain rfl : k = l.length := by omega
      rw [List.take_length]
      go_wp2
      go_ret
      exact ⟨rfl, rfl⟩
end Go.Proofs.Ytlnpiemnkpogfaa
