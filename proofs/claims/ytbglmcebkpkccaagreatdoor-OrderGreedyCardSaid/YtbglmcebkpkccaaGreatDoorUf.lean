/- Layer 6: numbers in classes that lie in memory: what Find tells, and what it leaves. No condition but that the classes lie in memory as they are made. -/
import Derived.Test.YtbglmcebkpkccaaGreatDoorRows
import Derived.Test.YtbglmcebkpkccaaGreatDoorHeap
import Derived.StillTailTactics
import Derived.Lib.Hide
import Derived.IntWalk
import Derived.OpenShut
import Derived.Deep.RegionHeld3
import Derived.Deep.DrawnRows
namespace Go.Proofs.YtbglmcebkpkccaaGreatDoor
open Go.RowKit
attribute [local go_sem] more_cell more_frozen more_more more_setCell more_of_drew more_of_drewN lt_more le_more past_cell past_cell2 past_frozen past_frozen2 past_setCell past_setCell2 mid_cell mid_frozen mid_setCell
attribute [local go_sem ↓] Go.wp_at_zero Go.wp_at_succ

/-- f leads each number to its class's least one, r. -/
structure Leads (n : Nat) (f r : Nat → Nat) : Prop where
  le : ∀ i, i < n → f i ≤ i
  same : ∀ i, i < n → r (f i) = r i
  root : ∀ i, i < n → f i = i → r i = i
theorem Leads.shorten {n b y : Nat} {f r : Nat → Nat} (h : Leads n f r) (_hb : b < n) (hy : y < b) (hr : r y = r b) : Leads n (fun i => if i = b then y else f i) r := by
  refine ⟨fun i hi => ?_, fun i hi => ?_, fun i hi => ?_⟩
  all_goals
    by_cases e : i = b
    · subst e
      simp only [if_true]
      omega
    · simp only [if_neg e]
      first | exact h.le i hi | exact h.same i hi | exact h.root i hi
theorem Turns.drew {w w' : World} {g : Nat} (h : Turns w w' g) : Turns w w'.drew g := ⟨h.os, h.tape, h.output, h.size, h.block⟩
theorem Turns.drewN {w w' : World} {g : Nat} (h : Turns w w' g) (k : Nat) : Turns w (w'.drewN k) g := ⟨h.os, h.tape, h.output, h.size, h.block⟩
end Go.Proofs.YtbglmcebkpkccaaGreatDoor
