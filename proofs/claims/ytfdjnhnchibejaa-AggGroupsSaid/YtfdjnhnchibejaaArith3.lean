/- Layer 3: values by a sign, and sums: what each call returns. Condition: numbers of 64 bits. -/
import Derived.Test.YtfdjnhnchibejaaArith2
namespace Go.Proofs.Ytfdjnhnchibejaa
open Go.RowKit
attribute [local go_sem] more_cell more_frozen more_more more_size more_setCell
attribute [local go_sem ↓] Go.wp_at_zero Go.wp_at_succ

def byI (op a b : Int) : Int := if op = 7 then a + b else if op = 8 then a - b else a * b
def recB (op : Int) : Bool := op == 7 || op == 8 || op == 9
def numB (k : Int) : Bool := k == 1 || k == 0
/-- What a sign makes of two values: its kind, its number, the error. -/
def doOk (op k k' : Int) : Bool := recB op && (numB k && numB k')
def doNull (k k' : Int) : Bool := k == 0 || k' == 0
def doK (op k i k' i' : Int) : Int := if doOk op k k' && (!doNull k k' && fits (byI op i i')) then 1 else 0
def doI (op k i k' i' : Int) : Int := if doOk op k k' && (!doNull k k' && fits (byI op i i')) then byI op i i' else 0
def doE (op k i k' i' : Int) : Int := if doOk op k k' then (if doNull k k' then 0 else if fits (byI op i i') then 0 else 5) else 3

theorem num_cases {k : Int} (h : numB k = true) : k = 1 ∨ k = 0 := by simpa [numB] using h
/-- The five ways through. -/
inductive DoWay (op k i k' i' : Int) : Prop where
  | op : recB op = false → DoWay op k i k' i'
  | left : recB op = true → numB k = false → DoWay op k i k' i'
  | right : recB op = true → numB k = true → numB k' = false → DoWay op k i k' i'
  | none0 : recB op = true → k = 0 → numB k' = true → DoWay op k i k' i'
  | none1 : recB op = true → k = 1 → k' = 0 → DoWay op k i k' i'
  | some : recB op = true → k = 1 → k' = 1 → DoWay op k i k' i'
theorem do_way (op k i k' i' : Int) : DoWay op k i k' i' := by
  cases h1 : recB op
  · exact .op h1
  · cases h2 : numB k
    · exact .left h1 h2
    · cases h3 : numB k'
      · exact .right h1 h2 h3
      · rcases num_cases h2 with h | h
        · rcases num_cases h3 with h' | h'
          · exact .some h1 h h'
          · exact .none1 h1 h h'
        · exact .none0 h1 h h3
def doV (a b c : Int) : Value := .tuple #[.agg #[.int .i64 a, .int .i64 b, .string ⟨#[]⟩], .int .i64 c]
end Go.Proofs.Ytfdjnhnchibejaa
