/- Layer 26: the document's own answer for sums and products of counts; its example. No condition. -/
import Derived.Test.YtbglmcebkpkccaaGreatDoorSat
import Derived.Laws.Externs
import Derived.Shelf.Spec.BitsCarry
namespace Go.Proofs.YtbglmcebkpkccaaGreatDoor
open Go.RowKit
attribute [local go_sem] more_cell more_frozen more_more more_setCell more_of_drew more_of_drewN lt_more le_more past_cell past_cell2 past_frozen past_frozen2 past_setCell past_setCell2 mid_cell mid_frozen mid_setCell
attribute [local go_sem ↓] Go.wp_at_zero Go.wp_at_succ

theorem times_zero {x y : Int} (h : x = 0 ∨ y = 0) : timesI x y = 0 := by
  unfold timesI
  rcases h with rfl | rfl
  · rw [Int.zero_mul, if_neg (by omega)]
  · rw [Int.mul_zero, if_neg (by omega)]
theorem times_over {x y : Int} (hy : 0 < y) (h : 4611686018427387904 / y < x) : timesI x y = 4611686018427387904 := by
  have h1 := Int.lt_mul_of_ediv_lt hy h
  unfold timesI
  rw [if_pos h1]
theorem times_under {x y : Int} (hy : 0 < y) (h : x ≤ 4611686018427387904 / y) : timesI x y = x * y ∧ x * y ≤ 4611686018427387904 := by
  have h1 := Int.mul_le_of_le_ediv hy h
  unfold timesI
  rw [if_neg (by omega)]
  exact ⟨rfl, h1⟩
theorem rtimes_any (a b : Int) (w : World) : Calls Tryz.prog 96 #[.int .i64 a, .int .i64 b] w fun e w' => e = .returned (.int .i64 (timesI (cutI a) (cutI b))) ∧ w' = w := by
  have hx := cutI_s a
  have hy := cutI_s b
  unfold sI at hx hy
  obtain ⟨x0, x1⟩ := hx
  obtain ⟨y0, y1⟩ := hy
  by_cases hx : cutI a = 0
  · have HT := Lib.hid (times_zero (y := cutI b) (Or.inl hx))
    go_enter Tryz.func96, Tryz.ntmps96
    go_wp2_with (go_at_call 85; refine (rcut_any _ _).mono ?_; rintro e w' ⟨rfl, rfl⟩)
    go_ret
    exact ⟨ret_int HT.out.symm, rfl⟩
  · by_cases hy : cutI b = 0
    · have HT := Lib.hid (times_zero (x := cutI a) (Or.inr hy))
      go_enter Tryz.func96, Tryz.ntmps96
      go_wp2_with (go_at_call 85; refine (rcut_any _ _).mono ?_; rintro e w' ⟨rfl, rfl⟩)
      go_ret
      exact ⟨ret_int HT.out.symm, rfl⟩
    · have hxb : (cutI a == 0) = false := by rw [beq_eq_false_iff_ne]; exact hx
      have hyb : (cutI b == 0) = false := by rw [beq_eq_false_iff_ne]; exact hy
      have hq : (4611686018427387904 : Int).tdiv (cutI b) = 4611686018427387904 / cutI b := Int.tdiv_eq_ediv_of_nonneg (by decide)
      have q0 : 0 ≤ 4611686018427387904 / cutI b := Int.ediv_nonneg (by decide) y0
      have q1 : 4611686018427387904 / cutI b ≤ 4611686018427387904 := Int.ediv_le_self _ (by decide)
      have hqw : wrap64 (4611686018427387904 / cutI b) = 4611686018427387904 / cutI b := by
        generalize 4611686018427387904 / cutI b = q at q0 q1
        unfold wrap64
        omega
      have HT1 := Lib.hid (times_over (x := cutI a) (y := cutI b) (by omega))
      have HT2 := Lib.hid (times_under (x := cutI a) (y := cutI b) (by omega))
      by_cases h : 4611686018427387904 / cutI b < cutI a
      · go_enter Tryz.func96, Tryz.ntmps96
        go_wp2_with (go_at_call 85; refine (rcut_any _ _).mono ?_; rintro e w' ⟨rfl, rfl⟩)
        go_ret
        exact ⟨ret_int (HT1.out h).symm, rfl⟩
      · have h2 := (HT2.out (by omega)).2
        have h3 := Int.mul_nonneg x0 y0
        go_enter Tryz.func96, Tryz.ntmps96
        go_wp2_with (go_at_call 85; refine (rcut_any _ _).mono ?_; rintro e w' ⟨rfl, rfl⟩)
        go_ret
        exact ⟨ret_int (HT2.out (by omega)).1.symm, rfl⟩
def RfoldPAt (l : List Int) (x i : Value) : Prop := ∃ k : Nat, k ≤ l.length ∧ i = .int .i64 k ∧ x = .int .i64 (foldP (l.take k) 0)
theorem rfoldP_any (l : List Int) (A : Option Addr) (c : Nat) (hl : l.length ≤ 1000000) (w : World) (hr : Row w A (l.map (Value.int .i64))) :
    Calls Tryz.prog 63 #[.slice A l.length c] w fun e w' => e = .returned (.int .i64 (foldP l 0)) ∧ w' = w := by
  have HR := Lib.hid hr
  clear hr
  go_enter Tryz.func63, Tryz.ntmps63
  go_wp2
  go_loop [3, 4] (fun x i => RfoldPAt l x i) (fun _ i => l.length - (intOf i).toNat)
  case atStart => exact ⟨0, Nat.zero_le _, rfl, rfl⟩
  case round =>
    obtain ⟨k, hk, rfl, rfl⟩ := hrel
    have HS := Lib.hid (cutI_self (foldP_s (l.take k) 0 (by unfold sI; decide)))
    by_cases h : k < l.length
    · obtain ⟨b, o, rfl, hb, hc⟩ := HR.out.at_ (k := k) (by simpa using h)
      simp only [List.getElem_map] at hc
      have HT := Lib.hid (foldP_take l 0 k h)
      generalize l[k] = y at hc HT
      generalize foldP (l.take k) 0 = x at HS HT
      go_wp2_with (go_at_call 100; refine (rplus_any _ _ _).mono ?_; rintro e w' ⟨rfl, rfl⟩)
      case roundEnd => exact ⟨⟨k + 1, by omega, by simp, by rw [HT.out, HS.out]⟩, by simp only [intOf]; omega⟩
    · obtain rfl : k = l.length := by omega
      rw [List.take_length]
      go_wp2
      go_ret
      exact ⟨rfl, rfl⟩
def RfoldMAt (l : List Int) (x i : Value) : Prop := ∃ k : Nat, k ≤ l.length ∧ i = .int .i64 k ∧ x = .int .i64 (foldM (l.take k) 1)
theorem rfoldM_any (l : List Int) (A : Option Addr) (c : Nat) (hl : l.length ≤ 1000000) (w : World) (hr : Row w A (l.map (Value.int .i64))) :
    Calls Tryz.prog 57 #[.slice A l.length c] w fun e w' => e = .returned (.int .i64 (foldM l 1)) ∧ w' = w := by
  have HR := Lib.hid hr
  clear hr
  go_enter Tryz.func57, Tryz.ntmps57
  go_wp2
  go_loop [3, 4] (fun x i => RfoldMAt l x i) (fun _ i => l.length - (intOf i).toNat)
  case atStart => exact ⟨0, Nat.zero_le _, rfl, rfl⟩
  case round =>
    obtain ⟨k, hk, rfl, rfl⟩ := hrel
    have HS := Lib.hid (cutI_self (foldM_s (l.take k) 1 (by unfold sI; decide)))
    by_cases h : k < l.length
    · obtain ⟨b, o, rfl, hb, hc⟩ := HR.out.at_ (k := k) (by simpa using h)
      simp only [List.getElem_map] at hc
      have HT := Lib.hid (foldM_take l 1 k h)
      generalize l[k] = y at hc HT
      generalize foldM (l.take k) 1 = x at HS HT
      go_wp2_with (go_at_call 96; refine (rtimes_any _ _ _).mono ?_; rintro e w' ⟨rfl, rfl⟩)
      case roundEnd => exact ⟨⟨k + 1, by omega, by simp, by rw [HT.out, HS.out]⟩, by simp only [intOf]; omega⟩
    · obtain rfl : k = l.length := by omega
      rw [List.take_length]
      go_wp2
      go_ret
      exact ⟨rfl, rfl⟩
theorem row_of (W : World) (B : Nat) (l : List Int) (hB : B = W.heap.size) (C : Array Value) (hC : C.toList = l.map (Value.int .i64)) : Row (W.alloc (.cells C 3)) (some ⟨B, 0, none⟩) (l.map (Value.int .i64)) := by
  refine Or.inr ⟨_, 0, rfl, by rw [World.size_alloc]; omega, fun j u hu => ?_⟩
  rw [World.cell?_alloc_at _ _ _ _ hB, Nat.zero_add, ← hu, ← hC, Array.getElem?_toList]
theorem div_live (w : World) : Gives Tryz.prog 104 #[.int .u64 0, .int .u64 12, .int .u64 3] w (.tuple #[.int .u64 4, .int .u64 0]) := by
  unfold Gives
  go_enter Tryz.func104, Tryz.ntmps104
  go_wp2
  go_quiet (fail)
  go_wp2
  exact bodyPost_ret (v := .tuple #[.int .u64 4, .int .u64 0]) (by simp [results, Tryz.results104, go_sem]) rfl ⟨rfl, (Grew.refl w).drewN _⟩
set_option maxHeartbeats 1000000 in
theorem part_live (w : World) : Gives Tryz.prog 73 #[.int .i64 10, .int .i64 1, .int .i64 3] w (.int .i64 4) := by
  unfold Gives
  have e1 : cutI 10 = 10 := by decide
  have e2 : cutI 1 = 1 := by decide
  have e3 : cutI 3 = 3 := by decide
  have hadd : ∀ W : World, (callFunc 103 #[.int .u64 10, .int .u64 2, .int .u64 0]).run Tryz.prog W = .ok (.value (.tuple #[.int .u64 12, .int .u64 0])) W := by
    intro W
    rw [run_callFunc_extern Tryz.func103 (by kernel_rfl) (by kernel_rfl) (by kernel_rfl) (e := add64Entry) (by kernel_rfl), run_add64 10 2 0 (by decide) (by decide) (by decide) (by decide)]
    rfl
  go_enter Tryz.func73, Tryz.ntmps73
  go_wp2_with (first | (go_at_call 104; refine (div_live _).mono ?_; rintro e w' ⟨rfl, x, rfl⟩) | (go_at_call 102; refine (mul64_int 10 1 (by decide) (by decide) (by decide) (by decide) _).mono ?_; rintro e w' ⟨rfl, rfl⟩) | (go_at_call 74; refine (cut_any _ _).mono ?_; rintro e w' ⟨rfl, rfl⟩))
  go_ret
  exact ⟨rfl, by (show Grew _ _; repeat (first | exact Grew.refl _ | refine Grew.alloc ?_ _ | refine Grew.drew ?_ | refine Grew.more ?_ _))⟩
end Go.Proofs.YtbglmcebkpkccaaGreatDoor
