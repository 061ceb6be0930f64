/- Layer 2's functions and the document's own answers for it: what each call returns. No condition but that a slice of numbers lies in memory that is there. -/
import Derived.Test.YtddambfniaiogaaLawVal
import Derived.Deep.RegionWith
namespace Go.Proofs.Ytddambfniaiogaa
open Go.RowKit
attribute [local go_sem] more_cell more_frozen more_more more_size more_setCell
attribute [local go_sem ↓] Go.wp_at_zero Go.wp_at_succ

/-- A truth that is one; the other one; two together. -/
def heldT (a : Int) : Int := if a = 0 then 0 else if a = 1 then 1 else 2
def notT (a : Int) : Int := if a = 0 then 1 else if a = 1 then 0 else 2
def andT (a b : Int) : Int := if a = 0 then 0 else if b = 0 then 0 else if a = 1 then (if b = 1 then 1 else 2) else 2
def orT (a b : Int) : Int := if a = 1 then 1 else if b = 1 then 1 else if a = 0 then (if b = 0 then 0 else 2) else 2
def ofT (b : Bool) : Int := if b then 1 else 0
def andL (l : List Int) : Int := l.foldl andT 1
def orL (l : List Int) : Int := l.foldl orT 0

theorem not_any (a : Int) (w : World) : Calls Try.prog 155 #[.int .i64 a] w fun e w' => e = .returned (.int .i64 (notT a)) ∧ w' = w := by
  go_enter Try.func155, Try.ntmps155
  go_wp2
  all_goals
    go_ret
    exact ⟨ret_int (by simp_all [notT]), rfl⟩
theorem of_any (b : Bool) (w : World) : Calls Try.prog 156 #[.bool b] w fun e w' => e = .returned (.int .i64 (ofT b)) ∧ w' = w := by
  cases b
  all_goals
    go_enter Try.func156, Try.ntmps156
    go_wp2
    go_ret
    exact ⟨ret_int rfl, rfl⟩
theorem is_any (a : Int) (w : World) : Calls Try.prog 100 #[.int .i64 a] w fun e w' => e = .returned (.bool (a == 1)) ∧ w' = w := by
  go_enter Try.func100, Try.ntmps100
  go_wp2
  go_ret
  exact ⟨rfl, rfl⟩
def rightT (a : Int) : Bool := a == 0 || a == 1 || a == 2
theorem held_any (a : Int) (w : World) : Calls Try.prog 154 #[.int .i64 a] w fun e w' => e = .returned (.int .i64 (heldT a)) ∧ w' = w := by
  go_enter Try.func154, Try.ntmps154
  go_wp2
  all_goals
    go_ret
    exact ⟨ret_int (by simp_all [heldT]; try omega), rfl⟩
theorem held_is {a v : Int} (h : Hid (heldT a = v)) (w : World) : Calls Try.prog 154 #[.int .i64 a] w fun e w' => e = .returned (.int .i64 v) ∧ w' = w := by
  rw [← h.out]
  exact held_any a w
set_option maxHeartbeats 400000 in
theorem rnot_any (a : Int) (w : World) : Gives Try.prog 95 #[.int .i64 a] w (.int .i64 (notT a)) := by
  unfold Gives
  by_cases h0 : a = 0
  · subst h0
    have e0 : heldT 0 = 0 := rfl
    go_enter Try.func95, Try.ntmps95
    go_wp2_with (go_at_call 154; refine (held_any _ _).mono ?_; rintro e w' ⟨rfl, rfl⟩)
    go_ret
    exact ⟨rfl, (Grew.refl w).alloc _⟩
  · by_cases h1 : a = 1
    · subst h1
      have e0 : heldT 1 = 1 := rfl
      go_enter Try.func95, Try.ntmps95
      go_wp2_with (go_at_call 154; refine (held_any _ _).mono ?_; rintro e w' ⟨rfl, rfl⟩)
      go_ret
      exact ⟨rfl, (Grew.refl w).alloc _⟩
    · have e0 : heldT a = 2 := by simp [heldT, h0, h1]
      go_enter Try.func95, Try.ntmps95
      go_wp2_with (go_at_call 154; refine (held_any _ _).mono ?_; rintro e w' ⟨rfl, rfl⟩)
      go_ret
      exact ⟨ret_int (by simp [notT, h0, h1]), (Grew.refl w).alloc _⟩
theorem heldT_cases (a : Int) : heldT a = 0 ∧ a = 0 ∨ heldT a = 1 ∧ a = 1 ∨ heldT a = 2 ∧ a ≠ 0 ∧ a ≠ 1 := by
  unfold heldT
  by_cases h0 : a = 0
  · simp [h0]
  · by_cases h1 : a = 1
    · simp [h1]
    · simp [h0, h1]
set_option maxHeartbeats 2000000 in
theorem both_any (a b : Int) (w : World) : Gives Try.prog 93 #[.int .i64 a, .int .i64 b] w (.int .i64 (andT a b)) := by
  unfold Gives
  rcases heldT_cases a with ⟨e0, h0⟩ | ⟨e0, h0⟩ | ⟨e0, h0⟩ <;> rcases heldT_cases b with ⟨e1, h1⟩ | ⟨e1, h1⟩ | ⟨e1, h1⟩
  all_goals
    have E0 := Lib.hid e0
    have E1 := Lib.hid e1
    have H0 := Lib.hid h0
    have H1 := Lib.hid h1
    clear e0 e1 h0 h1
    go_enter Try.func93, Try.ntmps93
    go_wp2
    go_quiet ((first | (go_at_call_of 154 a; exact Calls.quiet_of_same (held_is E0 _)) | (go_at_call_of 154 b; exact Calls.quiet_of_same (held_is E1 _))))
    go_wp2
    go_ret
    have h0 := H0.out
    have h1 := H1.out
    exact ⟨ret_int (by simp [andT, h0, h1]), by show Grew w _; repeat (first | exact Grew.refl _ | apply Grew.drewN | apply Grew.alloc)⟩
set_option maxHeartbeats 2000000 in
theorem either_any (a b : Int) (w : World) : Gives Try.prog 94 #[.int .i64 a, .int .i64 b] w (.int .i64 (orT a b)) := by
  unfold Gives
  rcases heldT_cases a with ⟨e0, h0⟩ | ⟨e0, h0⟩ | ⟨e0, h0⟩ <;> rcases heldT_cases b with ⟨e1, h1⟩ | ⟨e1, h1⟩ | ⟨e1, h1⟩
  all_goals
    have E0 := Lib.hid e0
    have E1 := Lib.hid e1
    have H0 := Lib.hid h0
    have H1 := Lib.hid h1
    clear e0 e1 h0 h1
    go_enter Try.func94, Try.ntmps94
    go_wp2
    go_quiet ((first | (go_at_call_of 154 a; exact Calls.quiet_of_same (held_is E0 _)) | (go_at_call_of 154 b; exact Calls.quiet_of_same (held_is E1 _))))
    go_wp2
    go_ret
    have h0 := H0.out
    have h1 := H1.out
    exact ⟨ret_int (by simp [orT, h0, h1]), by show Grew w _; repeat (first | exact Grew.refl _ | apply Grew.drewN | apply Grew.alloc)⟩
end Go.Proofs.Ytddambfniaiogaa
