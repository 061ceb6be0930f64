/- Layer 6: classes that are made, each by itself; told apart, counted. No condition. -/
import Derived.Test.YtbglmcebkpkccaaGreatDoorUf2
import Derived.Deep.OwnRows
import Derived.Laws.OwnMore
namespace Go.Proofs.YtbglmcebkpkccaaGreatDoor
open Go.RowKit
attribute [local go_sem] more_cell more_frozen more_more more_setCell more_of_drew more_of_drewN lt_more le_more past_cell past_cell2 past_frozen past_frozen2 past_setCell past_setCell2 mid_cell mid_frozen mid_setCell
attribute [local go_sem ↓] Go.wp_at_zero Go.wp_at_succ

theorem made_nums (n : Nat) (f : Nat → Nat) (hf : ∀ i, f i = 0) : madeCells #[.int .i64 0] n = numsV n f := by
  apply Array.ext'
  rw [toList_madeCells_one]
  unfold numsV
  apply List.ext_getElem?
  intro i
  by_cases h : i < n
  · simp [h, hf]
  · simp [h]
theorem infoInt3 : (Tryz.prog.info? 3).map (fun i => (i.zero, i.size, i.bytes)) = some (some (.int .i64 0), 1, 8) := by kernel_rfl
end Go.Proofs.YtbglmcebkpkccaaGreatDoor
