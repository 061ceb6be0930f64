/- Layer 1's functions and the document's own answers for it: what each call returns. No condition but the numbers' own bounds. -/
import Derived.Test.YtoaciliojdaoaaaRows
import Derived.Test.YtoaciliojdaoaaaKit
import Derived.Test.YtoaciliojdaoaaaShelf
import Derived.Lib.Bytealg
import Derived.Lib.Hide
import Derived.Deep.RegionHeld3
import Derived.Deep.DrawnRows
namespace Go.Proofs.Ytoaciliojdaoaaa
open Go.RowKit
attribute [local go_sem ↓] Go.wp_at_zero Go.wp_at_succ

/-- Two numbers: below, the same, above. -/
def ordI (a b : Int) : Int := if a < b then -1 else if b < a then 1 else 0
/-- Two values, by their three fields. -/
def ordV (k i : Int) (s : ByteArray) (k' i' : Int) (s' : ByteArray) : Int :=
  if k = k' then (if i = i' then Lib.compareBytes s.data.toList s'.data.toList else ordI i i') else ordI k k'
def sameV (k i : Int) (s : ByteArray) (k' i' : Int) (s' : ByteArray) : Bool := k == k' && (i == i' && s.toList == s'.toList)
theorem ordI_ne {a b : Int} (h : ¬ a = b) : ordI a b ≠ 0 := by unfold ordI; split <;> (try split) <;> omega

/-- The first of three numbers that is not 0. -/
def or3 (x y z : Int) : Int := if x = 0 then (if y = 0 then z else y) else x
def OrAt (x y z : Int) (i : Value) : Prop := i = .int .i64 0 ∨ (i = .int .i64 1 ∧ x = 0) ∨ (i = .int .i64 2 ∧ x = 0 ∧ y = 0) ∨ (i = .int .i64 3 ∧ x = 0 ∧ y = 0 ∧ z = 0)
theorem cmp_cons (a b : UInt8) (x y : List UInt8) : Lib.compareBytes (a :: x) (b :: y) = if a < b then -1 else if b < a then 1 else Lib.compareBytes x y := by
  rw [Lib.compareBytes]
theorem drop_at (s : ByteArray) (k : Nat) (h : k < s.size) : s.data.toList.drop k = s[k] :: s.data.toList.drop (k + 1) := by
  rw [List.drop_eq_getElem_cons (by simpa using h)]; rfl
theorem drop_end (s : ByteArray) (k : Nat) (h : ¬ k < s.size) : s.data.toList.drop k = [] := by
  apply List.drop_eq_nil_of_le
  have : s.data.toList.length = s.size := by simp
  omega
theorem cmp_less {s s' : ByteArray} {k : Nat} (h1 : k < s.size) (h2 : k < s'.size) (h : (s[k].toNat : Int) < (s'[k].toNat : Int)) :
    Lib.compareBytes (s.data.toList.drop k) (s'.data.toList.drop k) = -1 := by
  rw [drop_at s k h1, drop_at s' k h2, cmp_cons, if_pos (UInt8.lt_iff_toNat_lt.2 (by omega))]
theorem cmp_more {s s' : ByteArray} {k : Nat} (h1 : k < s.size) (h2 : k < s'.size) (h : ¬ (s[k].toNat : Int) < (s'[k].toNat : Int)) (hn : ((s[k].toNat : Int) != (s'[k].toNat : Int)) = true) :
    Lib.compareBytes (s.data.toList.drop k) (s'.data.toList.drop k) = 1 := by
  rw [bne_iff_ne] at hn
  rw [drop_at s k h1, drop_at s' k h2, cmp_cons, if_neg (by rw [UInt8.lt_iff_toNat_lt]; omega), if_pos (UInt8.lt_iff_toNat_lt.2 (by omega))]
theorem cmp_on {s s' : ByteArray} {k : Nat} (h1 : k < s.size) (h2 : k < s'.size) (hn : ((s[k].toNat : Int) != (s'[k].toNat : Int)) = false) :
    Lib.compareBytes (s.data.toList.drop k) (s'.data.toList.drop k) = Lib.compareBytes (s.data.toList.drop (k + 1)) (s'.data.toList.drop (k + 1)) := by
  rw [bne_eq_false_iff_eq] at hn
  rw [drop_at s k h1, drop_at s' k h2, cmp_cons, if_neg (by rw [UInt8.lt_iff_toNat_lt]; omega), if_neg (by rw [UInt8.lt_iff_toNat_lt]; omega)]
theorem cmp_stop {s s' : ByteArray} {k : Nat} (hk : k ≤ s.size) (hk' : k ≤ s'.size) (h : ¬ k < s.size ∨ ¬ k < s'.size) :
    Lib.compareBytes (s.data.toList.drop k) (s'.data.toList.drop k) = ordI s.size s'.size := by
  by_cases h1 : k < s.size
  · have h2 : ¬ k < s'.size := by omega
    rw [drop_at s k h1, drop_end s' k h2]
    unfold ordI Lib.compareBytes
    rw [if_neg (by omega), if_pos (by omega)]
  · rw [drop_end s k h1]
    by_cases h2 : k < s'.size
    · rw [drop_at s' k h2]
      unfold ordI Lib.compareBytes
      rw [if_pos (by omega)]
    · rw [drop_end s' k h2]
      unfold ordI Lib.compareBytes
      rw [if_neg (by omega), if_neg (by omega)]
def TextsAt (w : World) (s s' : ByteArray) (i : Value) (wr : World) : Prop :=
  ∃ k : Nat, k ≤ s.size ∧ k ≤ s'.size ∧ i = .int .i64 k ∧ Grew w wr ∧ Lib.compareBytes s.data.toList s'.data.toList = Lib.compareBytes (s.data.toList.drop k) (s'.data.toList.drop k)
theorem ordI_self (a : Int) : ordI a a = 0 := by unfold ordI; simp
theorem ordV_or (k i : Int) (s : ByteArray) (k' i' : Int) (s' : ByteArray) : ordV k i s k' i' s' = or3 (ordI k k') (ordI i i') (Lib.compareBytes s.data.toList s'.data.toList) := by
  unfold ordV or3
  by_cases hk : k = k'
  · subst hk
    rw [if_pos rfl, if_pos (ordI_self k)]
    by_cases hi : i = i'
    · subst hi
      rw [if_pos rfl, if_pos (ordI_self i)]
    · rw [if_neg hi, if_neg (ordI_ne hi)]
  · rw [if_neg hk, if_neg (ordI_ne hk)]
/-- Two values compared: the sign, and whether they may be. -/
def cmpB (k k' : Int) : Bool := k == k' && (k == 1 || k == 2)
def cmpN (k i : Int) (s : ByteArray) (k' i' : Int) (s' : ByteArray) : Int := if cmpB k k' then ordV k i s k' i' s' else 0
end Go.Proofs.Ytoaciliojdaoaaa
