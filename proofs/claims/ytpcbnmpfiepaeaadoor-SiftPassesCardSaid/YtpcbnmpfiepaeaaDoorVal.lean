/- Layer 1's functions and the document's own answers for it: what each call returns. No condition but the numbers' own bounds. -/
import Derived.Test.YtpcbnmpfiepaeaaDoorRows
import Derived.Test.YtpcbnmpfiepaeaaDoorKit
import Derived.Test.YtpcbnmpfiepaeaaDoorShelf
import Derived.Lib.Bytealg
import Derived.Lib.Hide
import Derived.Deep.RegionHeld3
import Derived.Deep.DrawnRows
namespace Go.Proofs.YtpcbnmpfiepaeaaDoor
open Go.RowKit
attribute [local go_sem ↓] Go.wp_at_zero Go.wp_at_succ

/-- Two numbers: below, the same, above. -/
def ordI (a b : Int) : Int := if a < b then -1 else if b < a then 1 else 0
/-- Two values, by their three fields. -/
def ordV (k i : Int) (s : ByteArray) (k' i' : Int) (s' : ByteArray) : Int :=
  if k = k' then (if i = i' then Lib.compareBytes s.data.toList s'.data.toList else ordI i i') else ordI k k'
def sameV (k i : Int) (s : ByteArray) (k' i' : Int) (s' : ByteArray) : Bool := k == k' && (i == i' && s.toList == s'.toList)
theorem ordI_ne {a b : Int} (h : ¬ a = b) : ordI a b ≠ 0 := by unfold ordI; split <;> (try split) <;> omega

theorem isnull_any (k i : Int) (s : ByteArray) (w : World) :
    Gives Tryd.prog 33 #[.agg #[.int .i64 k, .int .i64 i, .string s]] w (.bool (k == 0)) := by
  unfold Gives
  go_enter Tryd.func33, Tryd.ntmps33
  go_wp2
  go_ret
  exact ⟨rfl, (Grew.refl w).alloc _⟩
theorem ints_any (a b : Int) (w : World) : Calls Tryd.prog 65 #[.int .i64 a, .int .i64 b] w fun e w' => e = .returned (.int .i64 (ordI a b)) ∧ w' = w := by
  go_enter Tryd.func65, Tryd.ntmps65
  go_wp2
  all_goals
    go_ret
    exact ⟨congrArg Ending.returned (congrArg (Value.int IntKind.i64) (by unfold ordI; (repeat' split) <;> omega)), rfl⟩
theorem compare_any (a b : Int) (w : World) : Calls Tryd.prog 71 #[.int .i64 a, .int .i64 b] w fun e w' => e = .returned (.int .i64 (ordI a b)) ∧ w' = w := by
  go_enter Tryd.func71, Tryd.ntmps71
  go_wp2
  all_goals
    go_ret
    exact ⟨congrArg Ending.returned (congrArg (Value.int IntKind.i64) (by unfold ordI; (repeat' split) <;> omega)), rfl⟩
/-- The first of three numbers that is not 0. -/
def or3 (x y z : Int) : Int := if x = 0 then (if y = 0 then z else y) else x
def OrAt (x y z : Int) (i : Value) : Prop := i = .int .i64 0 ∨ (i = .int .i64 1 ∧ x = 0) ∨ (i = .int .i64 2 ∧ x = 0 ∧ y = 0) ∨ (i = .int .i64 3 ∧ x = 0 ∧ y = 0 ∧ z = 0)
/-- cmp.Or of three numbers that lie in a row. -/
theorem or_any (x y z : Int) (b : Nat) (w : World) (h0 : w.cell? ⟨b, 0, none⟩ = some (.int .i64 x)) (h1 : w.cell? ⟨b, 1, none⟩ = some (.int .i64 y)) (h2 : w.cell? ⟨b, 2, none⟩ = some (.int .i64 z)) :
    Calls Tryd.prog 70 #[.slice (some ⟨b, 0, none⟩) 3 3] w fun e w' => e = .returned (.int .i64 (or3 x y z)) ∧ w' = w := by
  go_enter Tryd.func70, Tryd.ntmps70
  go_wp2
  go_loop [8] (fun i => OrAt x y z i) (fun i => 3 - (intOf i).toNat)
  case atStart => exact Or.inl rfl
  case round =>
    rcases hrel with rfl | ⟨rfl, rfl⟩ | ⟨rfl, rfl, rfl⟩ | ⟨rfl, rfl, rfl, rfl⟩
    · by_cases hx : x = 0
      · subst hx
        go_wp2
        go_round
        case rel => exact Or.inr (Or.inl ⟨rfl, rfl⟩)
        case measure => simp [intOf]
      · go_wp2
        go_ret
        exact ⟨congrArg Ending.returned (congrArg (Value.int IntKind.i64) (by unfold or3; rw [if_neg hx])), rfl⟩
    · by_cases hy : y = 0
      · subst hy
        go_wp2
        go_round
        case rel => exact Or.inr (Or.inr (Or.inl ⟨rfl, rfl, rfl⟩))
        case measure => simp [intOf]
      · go_wp2
        go_ret
        exact ⟨congrArg Ending.returned (congrArg (Value.int IntKind.i64) (by unfold or3; rw [if_pos rfl, if_neg hy])), rfl⟩
    · by_cases hz : z = 0
      · subst hz
        go_wp2
        go_round
        case rel => exact Or.inr (Or.inr (Or.inr ⟨rfl, rfl, rfl, rfl⟩))
        case measure => simp [intOf]
      · go_wp2
        go_ret
        exact ⟨congrArg Ending.returned (congrArg (Value.int IntKind.i64) (by unfold or3; rw [if_pos rfl, if_pos rfl])), rfl⟩
    · go_wp2
      go_ret
      exact ⟨rfl, rfl⟩
theorem cmp_cons (a b : UInt8) (x y : List UInt8) : Lib.compareBytes (a :: x) (b :: y) = if a < b then -1 else if b < a then 1 else Lib.compareBytes x y := by
  rw [Lib.compareBytes]
theorem drop_at (s : ByteArray) (k : Nat) (h : k < s.size) : s.data.toList.drop k = s[k] :: s.data.toList.drop (k + 1) := by
  rw [List.drop_eq_getElem_cons (by simpa using h)]; rfl
theorem drop_end (s : ByteArray) (k : Nat) (h : ¬ k < s.size) : s.data.toList.drop k = [] := by
  apply List.drop_eq_nil_of_le
  have : s.data.toList.length = s.size := by simp
  omega
theorem cmp_less {s s' : ByteArray} {k : Nat} (h1 : k < s.size) (h2 : k < s'.size) (h : (s[k].toNat : Int) < (s'[k].toNat : Int)) :
    Lib.compareBytes (s.data.toList.drop k) (s'.data.toList.drop k) = -1 := by
  rw [drop_at s k h1, drop_at s' k h2, cmp_cons, if_pos (UInt8.lt_iff_toNat_lt.2 (by omega))]
theorem cmp_more {s s' : ByteArray} {k : Nat} (h1 : k < s.size) (h2 : k < s'.size) (h : ¬ (s[k].toNat : Int) < (s'[k].toNat : Int)) (hn : ((s[k].toNat : Int) != (s'[k].toNat : Int)) = true) :
    Lib.compareBytes (s.data.toList.drop k) (s'.data.toList.drop k) = 1 := by
  rw [bne_iff_ne] at hn
  rw [drop_at s k h1, drop_at s' k h2, cmp_cons, if_neg (by rw [UInt8.lt_iff_toNat_lt]; omega), if_pos (UInt8.lt_iff_toNat_lt.2 (by omega))]
theorem cmp_on {s s' : ByteArray} {k : Nat} (h1 : k < s.size) (h2 : k < s'.size) (hn : ((s[k].toNat : Int) != (s'[k].toNat : Int)) = false) :
    Lib.compareBytes (s.data.toList.drop k) (s'.data.toList.drop k) = Lib.compareBytes (s.data.toList.drop (k + 1)) (s'.data.toList.drop (k + 1)) := by
  rw [bne_eq_false_iff_eq] at hn
  rw [drop_at s k h1, drop_at s' k h2, cmp_cons, if_neg (by rw [UInt8.lt_iff_toNat_lt]; omega), if_neg (by rw [UInt8.lt_iff_toNat_lt]; omega)]
theorem cmp_stop {s s' : ByteArray} {k : Nat} (hk : k ≤ s.size) (hk' : k ≤ s'.size) (h : ¬ k < s.size ∨ ¬ k < s'.size) :
    Lib.compareBytes (s.data.toList.drop k) (s'.data.toList.drop k) = ordI s.size s'.size := by
  by_cases h1 : k < s.size
  · have h2 : ¬ k < s'.size := by omega
    rw [drop_at s k h1, drop_end s' k h2]
    unfold ordI Lib.compareBytes
    rw [if_neg (by omega), if_pos (by omega)]
  · rw [drop_end s k h1]
    by_cases h2 : k < s'.size
    · rw [drop_at s' k h2]
      unfold ordI Lib.compareBytes
      rw [if_pos (by omega)]
    · rw [drop_end s' k h2]
      unfold ordI Lib.compareBytes
      rw [if_neg (by omega), if_neg (by omega)]
def TextsAt (w : World) (s s' : ByteArray) (i : Value) (wr : World) : Prop :=
  ∃ k : Nat, k ≤ s.size ∧ k ≤ s'.size ∧ i = .int .i64 k ∧ Grew w wr ∧ Lib.compareBytes s.data.toList s'.data.toList = Lib.compareBytes (s.data.toList.drop k) (s'.data.toList.drop k)
/-- The document's own order of two texts. -/
theorem texts_any (s s' : ByteArray) (hs : s.size ≤ maxLen) (w : World) :
    Calls Tryd.prog 66 #[.string s, .string s'] w fun e w' => e = .returned (.int .i64 (Lib.compareBytes s.data.toList s'.data.toList)) ∧ Grew w w' := by
  unfold maxLen at hs
  go_enter Tryd.func66, Tryd.ntmps66
  go_wp2
  go_loopw [5] (fun i wr => TextsAt w s s' i wr) (fun i _ => s.size - (intOf i).toNat)
  case atStart => exact ⟨0, Nat.zero_le _, Nat.zero_le _, rfl, Grew.refl w, rfl⟩
  case round =>
    obtain ⟨k, hk, hk', rfl, hg, H0⟩ := hrel
    have H := Lib.hid H0
    clear H0
    by_cases h1 : k < s.size
    · by_cases h2 : k < s'.size
      · have i1 : (0 : Int) ≤ (k : Int) := by omega
        have i2 : (k : Int) < (s.size : Int) := by omega
        have i3 : (k : Int) < (s'.size : Int) := by omega
        go_wp2
        go_quiet (fail)
        go_wp2
        · go_quiet (fail)
          go_wp2
          · go_ret
            exact ⟨congrArg Ending.returned (congrArg (Value.int IntKind.i64) (by rw [H.out]; exact (cmp_less h1 h2 (by omega)).symm)), (hg.drewN _).drewN _⟩
          · go_ret
            exact ⟨congrArg Ending.returned (congrArg (Value.int IntKind.i64) (by rw [H.out]; exact (cmp_more h1 h2 (by omega) ‹_›).symm)), (hg.drewN _).drewN _⟩
        · go_roundw
          case rel => exact ⟨k + 1, by omega, by omega, by go_num, hg.drewN _, by rw [H.out]; exact cmp_on h1 h2 ‹_›⟩
          case measure => simp [intOf]; omega
      · have He := Lib.hid (cmp_stop hk hk' (Or.inr h2))
        go_wp2
        all_goals
          go_ret
          exact ⟨congrArg Ending.returned (congrArg (Value.int IntKind.i64) (by rw [H.out, He.out]; unfold ordI; (repeat' split) <;> omega)), hg⟩
    · have He := Lib.hid (cmp_stop hk hk' (Or.inl h1))
      go_wp2
      all_goals
        go_ret
        exact ⟨congrArg Ending.returned (congrArg (Value.int IntKind.i64) (by rw [H.out, He.out]; unfold ordI; (repeat' split) <;> omega)), hg⟩
theorem ordI_self (a : Int) : ordI a a = 0 := by unfold ordI; simp
theorem ordV_or (k i : Int) (s : ByteArray) (k' i' : Int) (s' : ByteArray) : ordV k i s k' i' s' = or3 (ordI k k') (ordI i i') (Lib.compareBytes s.data.toList s'.data.toList) := by
  unfold ordV or3
  by_cases hk : k = k'
  · subst hk
    rw [if_pos rfl, if_pos (ordI_self k)]
    by_cases hi : i = i'
    · subst hi
      rw [if_pos rfl, if_pos (ordI_self i)]
    · rw [if_neg hi, if_neg (ordI_ne hi)]
  · rw [if_neg hk, if_neg (ordI_ne hk)]
set_option maxHeartbeats 1000000 in
theorem order_any (k i : Int) (s : ByteArray) (k' i' : Int) (s' : ByteArray) (w : World) :
    Gives Tryd.prog 64 #[.agg #[.int .i64 k, .int .i64 i, .string s], .agg #[.int .i64 k', .int .i64 i', .string s']] w (.int .i64 (ordV k i s k' i' s')) := by
  unfold Gives
  go_enter Tryd.func64, Tryd.ntmps64
  go_wp2
  go_region_held3 (fun w' => w'.cell? ⟨w.heap.size, 0, none⟩ = some (.int .i64 k) ∧ w'.cell? ⟨w.heap.size, 1, none⟩ = some (.int .i64 i) ∧ w'.cell? ⟨w.heap.size, 2, none⟩ = some (.string s) ∧ w'.cell? ⟨w.heap.size + 1, 0, none⟩ = some (.int .i64 k') ∧ w'.cell? ⟨w.heap.size + 1, 1, none⟩ = some (.int .i64 i') ∧ w'.cell? ⟨w.heap.size + 1, 2, none⟩ = some (.string s')) (go_keep)
    (first | (go_at_call 71; refine (compare_any _ _ _).mono ?_; rintro e w' ⟨rfl, rfl⟩) | (go_at_call 72; refine (Tryd.strings_Compare _ _ _).mono ?_; rintro e w' ⟨rfl, rfl⟩) | (go_at_call 70; refine (or_any (ordI k k') (ordI i i') (Lib.compareBytes s.data.toList s'.data.toList) _ _ (by go_simp) (by go_simp) (by go_simp)).mono ?_; rintro e w' ⟨rfl, rfl⟩))
  all_goals
    go_wp2
    go_ret
    exact ⟨congrArg Ending.returned (congrArg (Value.int IntKind.i64) (ordV_or k i s k' i' s').symm), by show Grew w _; repeat (first | exact Grew.refl _ | apply Grew.drew | apply Grew.alloc)⟩
set_option maxHeartbeats 400000 in
theorem rorder_any (k i : Int) (s : ByteArray) (k' i' : Int) (s' : ByteArray) (hs : s.size ≤ maxLen) (w : World) :
    Gives Tryd.prog 46 #[.agg #[.int .i64 k, .int .i64 i, .string s], .agg #[.int .i64 k', .int .i64 i', .string s']] w (.int .i64 (ordV k i s k' i' s')) := by
  unfold Gives
  go_enter Tryd.func46, Tryd.ntmps46
  go_wp2_with (first | (go_at_call 65; refine (ints_any _ _ _).mono ?_; rintro e w' ⟨rfl, rfl⟩) | (go_at_call 66; refine (texts_any _ _ hs _).mono ?_; rintro e w' ⟨rfl, hg⟩))
  all_goals
    go_ret
    exact ⟨congrArg Ending.returned (congrArg (Value.int IntKind.i64) (by simp_all [ordV])), by first | exact (((Grew.refl w).alloc _).alloc _).trans hg | exact ((Grew.refl w).alloc _).alloc _⟩

/-- Two values compared: the sign, and whether they may be. -/
def cmpB (k k' : Int) : Bool := k == k' && (k == 1 || k == 2)
def cmpN (k i : Int) (s : ByteArray) (k' i' : Int) (s' : ByteArray) : Int := if cmpB k k' then ordV k i s k' i' s' else 0
end Go.Proofs.YtpcbnmpfiepaeaaDoor
