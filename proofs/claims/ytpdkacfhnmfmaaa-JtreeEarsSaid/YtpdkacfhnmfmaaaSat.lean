/- Layer 26: counts that stay within bounds, by the program and by the document's own answer. No condition but the numbers' own bounds. -/
import Derived.Test.YtpdkacfhnmfmaaaRows
import Derived.Test.YtpdkacfhnmfmaaaKit3
import Derived.Test.YtpdkacfhnmfmaaaShelf
import Derived.Lib.Hide
import Derived.OpenShut
import Derived.Deep.RegionHeld3
import Derived.Deep.DrawnRows
namespace Go.Proofs.Ytpdkacfhnmfmaaa
open Go.RowKit
attribute [local go_sem] more_cell more_frozen more_more more_setCell more_of_drew more_of_drewN lt_more le_more past_cell past_cell2 past_frozen past_frozen2 past_setCell past_setCell2 mid_cell mid_frozen mid_setCell
attribute [local go_sem ↓] Go.wp_at_zero Go.wp_at_succ

def cutI (n : Int) : Int := if n < 0 then 0 else if 4611686018427387904 < n then 4611686018427387904 else n
def sI (n : Int) : Prop := 0 ≤ n ∧ n ≤ 4611686018427387904
theorem cutI_s (n : Int) : sI (cutI n) := by unfold cutI sI; split <;> (try split) <;> omega
theorem cutI_self {n : Int} (h : sI n) : cutI n = n := by unfold sI at h; unfold cutI; rw [if_neg (by omega), if_neg (by omega)]
def plusI (x y : Int) : Int := if 4611686018427387904 < x + y then 4611686018427387904 else x + y
def timesI (x y : Int) : Int := if 4611686018427387904 < x * y then 4611686018427387904 else x * y
theorem plusI_s {x y : Int} (hx : sI x) (hy : sI y) : sI (plusI x y) := by unfold sI at *; unfold plusI; split <;> omega
theorem timesI_s {x y : Int} (hx : sI x) (hy : sI y) : sI (timesI x y) := by
  have h := Int.mul_nonneg hx.1 hy.1
  unfold sI timesI
  split <;> omega
theorem ret_u64 {a b : Int} (h : a = b) : Ending.returned (.int .u64 a) = .returned (.int .u64 b) := by rw [h]
theorem mul64_int (x y : Int) (x0 : 0 ≤ x) (x1 : x < 18446744073709551616) (y0 : 0 ≤ y) (y1 : y < 18446744073709551616) (w : World) : Calls Try.prog 74 #[.int .u64 x, .int .u64 y] w fun e w' => e = .returned (.tuple #[.int .u64 (x * y / 18446744073709551616), .int .u64 (x * y % 18446744073709551616)]) ∧ w' = w := by
  obtain ⟨X, rfl⟩ := Int.eq_ofNat_of_zero_le x0
  obtain ⟨Y, rfl⟩ := Int.eq_ofNat_of_zero_le y0
  refine (Try.bits_Mul64 X Y (by omega) (by omega) w).mono fun e w' ⟨he, hw⟩ => ⟨?_, hw⟩
  rw [he]
  simp only [Int.natCast_ediv, Int.natCast_emod, Int.natCast_mul]
  rfl
def foldP (l : List Int) (a : Int) : Int := l.foldl (fun a n => plusI a (cutI n)) a
def foldM (l : List Int) (a : Int) : Int := l.foldl (fun a n => timesI a (cutI n)) a
theorem foldP_s (l : List Int) : ∀ a, sI a → sI (foldP l a) := by
  induction l with
  | nil => intro a h; exact h
  | cons x l ih => intro a h; exact ih _ (plusI_s h (cutI_s x))
theorem foldM_s (l : List Int) : ∀ a, sI a → sI (foldM l a) := by
  induction l with
  | nil => intro a h; exact h
  | cons x l ih => intro a h; exact ih _ (timesI_s h (cutI_s x))
theorem take_one (l : List Int) (k : Nat) (h : k < l.length) : l.take (k + 1) = l.take k ++ [l[k]] := List.take_succ_eq_append_getElem h
theorem foldP_take (l : List Int) (a : Int) (k : Nat) (h : k < l.length) : foldP (l.take (k + 1)) a = plusI (foldP (l.take k) a) (cutI l[k]) := by
  rw [take_one l k h]
  unfold foldP
  rw [List.foldl_append]
  rfl
theorem foldM_take (l : List Int) (a : Int) (k : Nat) (h : k < l.length) : foldM (l.take (k + 1)) a = timesI (foldM (l.take k) a) (cutI l[k]) := by
  rw [take_one l k h]
  unfold foldM
  rw [List.foldl_append]
  rfl
def foldPAt (l : List Int) (a : Int) (x i : Value) : Prop := ∃ k : Nat, k ≤ l.length ∧ i = .int .i64 k ∧ x = .int .u64 (foldP (l.take k) a)
def foldMAt (l : List Int) (a : Int) (x i : Value) : Prop := ∃ k : Nat, k ≤ l.length ∧ i = .int .i64 k ∧ x = .int .u64 (foldM (l.take k) a)
end Go.Proofs.Ytpdkacfhnmfmaaa
