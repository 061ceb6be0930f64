/- Layer 26: counts that stay within bounds, by the program and by the document's own answer. No condition but the numbers' own bounds. -/
import Derived.Test.YtbglmcebkpkccaaGreatDoorRows
import Derived.Test.YtbglmcebkpkccaaGreatDoorKit3
import Derived.Test.YtbglmcebkpkccaaGreatDoorShelf
import Derived.Lib.Hide
import Derived.OpenShut
import Derived.Deep.RegionHeld3
import Derived.Deep.DrawnRows
namespace Go.Proofs.YtbglmcebkpkccaaGreatDoor
open Go.RowKit
attribute [local go_sem] more_cell more_frozen more_more more_setCell more_of_drew more_of_drewN lt_more le_more past_cell past_cell2 past_frozen past_frozen2 past_setCell past_setCell2 mid_cell mid_frozen mid_setCell
attribute [local go_sem ↓] Go.wp_at_zero Go.wp_at_succ

def cutI (n : Int) : Int := if n < 0 then 0 else if 4611686018427387904 < n then 4611686018427387904 else n
def sI (n : Int) : Prop := 0 ≤ n ∧ n ≤ 4611686018427387904
theorem cutI_s (n : Int) : sI (cutI n) := by unfold cutI sI; split <;> (try split) <;> omega
theorem cutI_self {n : Int} (h : sI n) : cutI n = n := by unfold sI at h; unfold cutI; rw [if_neg (by omega), if_neg (by omega)]
def plusI (x y : Int) : Int := if 4611686018427387904 < x + y then 4611686018427387904 else x + y
def timesI (x y : Int) : Int := if 4611686018427387904 < x * y then 4611686018427387904 else x * y
theorem plusI_s {x y : Int} (hx : sI x) (hy : sI y) : sI (plusI x y) := by unfold sI at *; unfold plusI; split <;> omega
theorem timesI_s {x y : Int} (hx : sI x) (hy : sI y) : sI (timesI x y) := by
  have h := Int.mul_nonneg hx.1 hy.1
  unfold sI timesI
  split <;> omega
theorem ret_u64 {a b : Int} (h : a = b) : Ending.returned (.int .u64 a) = .returned (.int .u64 b) := by rw [h]
theorem cut_any (n : Int) (w : World) : Calls Tryz.prog 74 #[.int .i64 n] w fun e w' => e = .returned (.int .i64 (cutI n)) ∧ w' = w := by
  rcases (by omega : n < 0 ∨ 0 ≤ n ∧ n ≤ 4611686018427387904 ∨ 4611686018427387904 < n) with h | ⟨h, h'⟩ | h
  all_goals
    go_enter Tryz.func74, Tryz.ntmps74
    go_wp2
    all_goals
      go_ret
      exact ⟨ret_int (by unfold cutI; (repeat' split) <;> omega), rfl⟩
theorem rcut_any (n : Int) (w : World) : Calls Tryz.prog 85 #[.int .i64 n] w fun e w' => e = .returned (.int .i64 (cutI n)) ∧ w' = w := by
  go_enter Tryz.func85, Tryz.ntmps85
  go_wp2
  all_goals
    go_ret
    exact ⟨ret_int (by unfold cutI; (repeat' split) <;> omega), rfl⟩
theorem satplus_any (x y : Int) (hx : sI x) (hy : sI y) (w : World) : Calls Tryz.prog 99 #[.int .u64 x, .int .u64 y] w fun e w' => e = .returned (.int .u64 (plusI x y)) ∧ w' = w := by
  unfold sI at hx hy
  obtain ⟨x0, x1⟩ := hx
  obtain ⟨y0, y1⟩ := hy
  have hw : IntKind.u64.wrap (x + y) = x + y := by unfold IntKind.wrap; show (x + y) % 18446744073709551616 = _; omega
  go_enter Tryz.func99, Tryz.ntmps99
  go_wp2
  go_ret
  exact ⟨ret_u64 (by unfold plusI; split <;> omega), rfl⟩
theorem mul64_int (x y : Int) (x0 : 0 ≤ x) (x1 : x < 18446744073709551616) (y0 : 0 ≤ y) (y1 : y < 18446744073709551616) (w : World) : Calls Tryz.prog 102 #[.int .u64 x, .int .u64 y] w fun e w' => e = .returned (.tuple #[.int .u64 (x * y / 18446744073709551616), .int .u64 (x * y % 18446744073709551616)]) ∧ w' = w := by
  obtain ⟨X, rfl⟩ := Int.eq_ofNat_of_zero_le x0
  obtain ⟨Y, rfl⟩ := Int.eq_ofNat_of_zero_le y0
  refine (Tryz.bits_Mul64 X Y (by omega) (by omega) w).mono fun e w' ⟨he, hw⟩ => ⟨?_, hw⟩
  rw [he]
  simp only [Int.natCast_ediv, Int.natCast_emod, Int.natCast_mul]
  rfl
theorem sattimes_any (x y : Int) (hx : sI x) (hy : sI y) (w : World) : Calls Tryz.prog 95 #[.int .u64 x, .int .u64 y] w fun e w' => e = .returned (.int .u64 (timesI x y)) ∧ w' = w := by
  unfold sI at hx hy
  obtain ⟨x0, x1⟩ := hx
  obtain ⟨y0, y1⟩ := hy
  have hw1 : IntKind.u64.wrap x = x := by unfold IntKind.wrap; show x % 18446744073709551616 = _; omega
  have hw2 : IntKind.u64.wrap y = y := by unfold IntKind.wrap; show y % 18446744073709551616 = _; omega
  go_enter Tryz.func95, Tryz.ntmps95
  go_wp2_with (go_at_call 102; refine (mul64_int x y (by omega) (by omega) (by omega) (by omega) _).mono ?_; rintro e w' ⟨rfl, rfl⟩)
  all_goals
    go_ret
    have hp := Int.mul_nonneg x0 y0
    exact ⟨ret_u64 (by unfold timesI; generalize x * y = p at *; split <;> omega), rfl⟩
theorem rplus_any (a b : Int) (w : World) : Calls Tryz.prog 100 #[.int .i64 a, .int .i64 b] w fun e w' => e = .returned (.int .i64 (plusI (cutI a) (cutI b))) ∧ w' = w := by
  have hx := cutI_s a
  have hy := cutI_s b
  unfold sI at hx hy
  obtain ⟨x0, x1⟩ := hx
  obtain ⟨y0, y1⟩ := hy
  go_enter Tryz.func100, Tryz.ntmps100
  go_wp2_with (go_at_call 85; refine (rcut_any _ _).mono ?_; rintro e w' ⟨rfl, rfl⟩)
  all_goals
    go_ret
    exact ⟨ret_int (by unfold plusI; split <;> omega), rfl⟩
def foldP (l : List Int) (a : Int) : Int := l.foldl (fun a n => plusI a (cutI n)) a
def foldM (l : List Int) (a : Int) : Int := l.foldl (fun a n => timesI a (cutI n)) a
theorem foldP_s (l : List Int) : ∀ a, sI a → sI (foldP l a) := by
  induction l with
  | nil => intro a h; exact h
  | cons x l ih => intro a h; exact ih _ (plusI_s h (cutI_s x))
theorem foldM_s (l : List Int) : ∀ a, sI a → sI (foldM l a) := by
  induction l with
  | nil => intro a h; exact h
  | cons x l ih => intro a h; exact ih _ (timesI_s h (cutI_s x))
theorem take_one26 (l : List Int) (k : Nat) (h : k < l.length) : l.take (k + 1) = l.take k ++ [l[k]] := List.take_succ_eq_append_getElem h
theorem foldP_take (l : List Int) (a : Int) (k : Nat) (h : k < l.length) : foldP (l.take (k + 1)) a = plusI (foldP (l.take k) a) (cutI l[k]) := by
  rw [take_one26 l k h]
  unfold foldP
  rw [List.foldl_append]
  rfl
theorem foldM_take (l : List Int) (a : Int) (k : Nat) (h : k < l.length) : foldM (l.take (k + 1)) a = timesI (foldM (l.take k) a) (cutI l[k]) := by
  rw [take_one26 l k h]
  unfold foldM
  rw [List.foldl_append]
  rfl
def foldPAt (l : List Int) (a : Int) (x i : Value) : Prop := ∃ k : Nat, k ≤ l.length ∧ i = .int .i64 k ∧ x = .int .u64 (foldP (l.take k) a)
theorem foldP_any (l : List Int) (a : Int) (ha : sI a) (A : Option Addr) (c : Nat) (hl : l.length ≤ 1000000) (w : World) (hr : Row w A (l.map (Value.int .i64))) :
    Calls Tryz.prog 94 #[.int .u64 a, .func (.func 99) #[] #[], .slice A l.length c] w fun e w' => e = .returned (.int .i64 (foldP l a)) ∧ w' = w := by
  have HR := Lib.hid hr
  clear hr
  go_enter Tryz.func94, Tryz.ntmps94
  go_wp2
  go_loop [0, 11] (fun x i => foldPAt l a x i) (fun _ i => l.length - (intOf i).toNat)
  case atStart => exact ⟨0, Nat.zero_le _, rfl, rfl⟩
  case round =>
    obtain ⟨k, hk, rfl, rfl⟩ := hrel
    have HS := Lib.hid (foldP_s (l.take k) a ha)
    by_cases h : k < l.length
    · obtain ⟨b, o, rfl, hb, hc⟩ := HR.out.at_ (k := k) (by simpa using h)
      simp only [List.getElem_map] at hc
      have HT := Lib.hid (foldP_take l a k h)
      generalize l[k] = y at hc HT
      generalize foldP (l.take k) a = x at HS HT
      have h0 := (cutI_s y).1
      have h1 : cutI y < 18446744073709551616 := by have := (cutI_s y).2; omega
      have hw : IntKind.u64.wrap (cutI y) = cutI y := by unfold IntKind.wrap; show cutI y % 18446744073709551616 = _; omega
      go_wp2_with (first | (go_at_call 74; refine (cut_any _ _).mono ?_; rintro e w' ⟨rfl, rfl⟩) | (go_at_call 99; refine (satplus_any _ _ HS.out (cutI_s y) _).mono ?_; rintro e w' ⟨rfl, rfl⟩))
      case roundEnd => exact ⟨⟨k + 1, by omega, by simp, by rw [HT.out]⟩, by simp only [intOf]; omega⟩
    · obtain rfl : k = l.length := by omega
      rw [List.take_length] at HS
      rw [List.take_length]
      have h0 := HS.out.1
      have h1 := HS.out.2
      have h2 : foldP l a < 9223372036854775808 := by omega
      generalize hx : foldP l a = x at h0 h1 h2 ⊢
      go_wp2
      go_ret
      exact ⟨rfl, rfl⟩
def foldMAt (l : List Int) (a : Int) (x i : Value) : Prop := ∃ k : Nat, k ≤ l.length ∧ i = .int .i64 k ∧ x = .int .u64 (foldM (l.take k) a)
theorem foldM_any (l : List Int) (a : Int) (ha : sI a) (A : Option Addr) (c : Nat) (hl : l.length ≤ 1000000) (w : World) (hr : Row w A (l.map (Value.int .i64))) :
    Calls Tryz.prog 94 #[.int .u64 a, .func (.func 95) #[] #[], .slice A l.length c] w fun e w' => e = .returned (.int .i64 (foldM l a)) ∧ w' = w := by
  have HR := Lib.hid hr
  clear hr
  go_enter Tryz.func94, Tryz.ntmps94
  go_wp2
  go_loop [0, 11] (fun x i => foldMAt l a x i) (fun _ i => l.length - (intOf i).toNat)
  case atStart => exact ⟨0, Nat.zero_le _, rfl, rfl⟩
  case round =>
    obtain ⟨k, hk, rfl, rfl⟩ := hrel
    have HS := Lib.hid (foldM_s (l.take k) a ha)
    by_cases h : k < l.length
    · obtain ⟨b, o, rfl, hb, hc⟩ := HR.out.at_ (k := k) (by simpa using h)
      simp only [List.getElem_map] at hc
      have HT := Lib.hid (foldM_take l a k h)
      generalize l[k] = y at hc HT
      generalize foldM (l.take k) a = x at HS HT
      have h0 := (cutI_s y).1
      have h1 : cutI y < 18446744073709551616 := by have := (cutI_s y).2; omega
      have hw : IntKind.u64.wrap (cutI y) = cutI y := by unfold IntKind.wrap; show cutI y % 18446744073709551616 = _; omega
      go_wp2_with (first | (go_at_call 74; refine (cut_any _ _).mono ?_; rintro e w' ⟨rfl, rfl⟩) | (go_at_call 95; refine (sattimes_any _ _ HS.out (cutI_s y) _).mono ?_; rintro e w' ⟨rfl, rfl⟩))
      case roundEnd => exact ⟨⟨k + 1, by omega, by simp, by rw [HT.out]⟩, by simp only [intOf]; omega⟩
    · obtain rfl : k = l.length := by omega
      rw [List.take_length] at HS
      rw [List.take_length]
      have h0 := HS.out.1
      have h1 := HS.out.2
      have h2 : foldM l a < 9223372036854775808 := by omega
      generalize hx : foldM l a = x at h0 h1 h2 ⊢
      go_wp2
      go_ret
      exact ⟨rfl, rfl⟩
theorem add_any (l : List Int) (A : Option Addr) (c : Nat) (hl : l.length ≤ 1000000) (w : World) (hr : Row w A (l.map (Value.int .i64))) :
    Calls Tryz.prog 62 #[.slice A l.length c] w fun e w' => e = .returned (.int .i64 (foldP l 0)) ∧ w' = w := by
  go_enter Tryz.func62, Tryz.ntmps62
  go_wp2_with (go_at_call 94; refine (foldP_any l 0 (by unfold sI; decide) A c hl _ hr).mono ?_; rintro e w' ⟨rfl, rfl⟩)
  go_ret
  exact ⟨rfl, rfl⟩
theorem mul_any (l : List Int) (A : Option Addr) (c : Nat) (hl : l.length ≤ 1000000) (w : World) (hr : Row w A (l.map (Value.int .i64))) :
    Calls Tryz.prog 54 #[.slice A l.length c] w fun e w' => e = .returned (.int .i64 (foldM l 1)) ∧ w' = w := by
  go_enter Tryz.func54, Tryz.ntmps54
  go_wp2_with (go_at_call 94; refine (foldM_any l 1 (by unfold sI; decide) A c hl _ hr).mono ?_; rintro e w' ⟨rfl, rfl⟩)
  go_ret
  exact ⟨rfl, rfl⟩
end Go.Proofs.YtbglmcebkpkccaaGreatDoor
