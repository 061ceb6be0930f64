/- Layer 2's functions and the document's own answers for it: what each call returns. No condition but that a slice of numbers lies in memory that is there. -/
import Derived.Test.YtfdjnhnchibejaaLawVal
import Derived.Deep.RegionWith
namespace Go.Proofs.Ytfdjnhnchibejaa
open Go.RowKit
attribute [local go_sem] more_cell more_frozen more_more more_size more_setCell
attribute [local go_sem ↓] Go.wp_at_zero Go.wp_at_succ

/-- A truth that is one; the other one; two together. -/
def heldT (a : Int) : Int := if a = 0 then 0 else if a = 1 then 1 else 2
def notT (a : Int) : Int := if a = 0 then 1 else if a = 1 then 0 else 2
def andT (a b : Int) : Int := if a = 0 then 0 else if b = 0 then 0 else if a = 1 then (if b = 1 then 1 else 2) else 2
def orT (a b : Int) : Int := if a = 1 then 1 else if b = 1 then 1 else if a = 0 then (if b = 0 then 0 else 2) else 2
def ofT (b : Bool) : Int := if b then 1 else 0
def andL (l : List Int) : Int := l.foldl andT 1
def orL (l : List Int) : Int := l.foldl orT 0

def rightT (a : Int) : Bool := a == 0 || a == 1 || a == 2
theorem heldT_cases (a : Int) : heldT a = 0 ∧ a = 0 ∨ heldT a = 1 ∧ a = 1 ∨ heldT a = 2 ∧ a ≠ 0 ∧ a ≠ 1 := by
  unfold heldT
  by_cases h0 : a = 0
  · simp [h0]
  · by_cases h1 : a = 1
    · simp [h1]
    · simp [h0, h1]
end Go.Proofs.Ytfdjnhnchibejaa
