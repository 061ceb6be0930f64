/- Layer 3: the document's own answer for values by a sign. Condition: numbers of 64 bits. -/
import Derived.Test.YtfdjnhnchibejaaArith3
namespace Go.Proofs.Ytfdjnhnchibejaa
open Go.RowKit
attribute [local go_sem] more_cell more_frozen more_more more_size more_setCell
attribute [local go_sem ↓] Go.wp_at_zero Go.wp_at_succ

/-- The ways through the document's own answer. -/
inductive RDoWay (op k k' : Int) : Prop where
  | op0 : op < 7 → RDoWay op k k'
  | op1 : 9 < op → RDoWay op k k'
  | left0 : 7 ≤ op → op ≤ 9 → k < 0 → RDoWay op k k'
  | left1 : 7 ≤ op → op ≤ 9 → 1 < k → RDoWay op k k'
  | right0 : 7 ≤ op → op ≤ 9 → 0 ≤ k → k ≤ 1 → k' < 0 → RDoWay op k k'
  | right1 : 7 ≤ op → op ≤ 9 → 0 ≤ k → k ≤ 1 → 1 < k' → RDoWay op k k'
  | none0 : 7 ≤ op → op ≤ 9 → k = 0 → 0 ≤ k' → k' ≤ 1 → RDoWay op k k'
  | none1 : 7 ≤ op → op ≤ 9 → k = 1 → k' = 0 → RDoWay op k k'
  | add : op = 7 → k = 1 → k' = 1 → RDoWay op k k'
  | sub : op = 8 → k = 1 → k' = 1 → RDoWay op k k'
  | mul : op = 9 → k = 1 → k' = 1 → RDoWay op k k'
theorem rdo_way (op k k' : Int) : RDoWay op k k' := by
  by_cases h1 : op < 7
  · exact .op0 h1
  by_cases h2 : 9 < op
  · exact .op1 h2
  by_cases h3 : k < 0
  · exact .left0 (by omega) (by omega) h3
  by_cases h4 : 1 < k
  · exact .left1 (by omega) (by omega) h4
  by_cases h5 : k' < 0
  · exact .right0 (by omega) (by omega) (by omega) (by omega) h5
  by_cases h6 : 1 < k'
  · exact .right1 (by omega) (by omega) (by omega) (by omega) h6
  by_cases h7 : k = 0
  · exact .none0 (by omega) (by omega) h7 (by omega) (by omega)
  by_cases h8 : k' = 0
  · exact .none1 (by omega) (by omega) (by omega) h8
  by_cases h9 : op = 7
  · exact .add h9 (by omega) (by omega)
  by_cases h10 : op = 8
  · exact .sub h10 (by omega) (by omega)
  · exact .mul (by omega) (by omega) (by omega)
theorem recB_iff (op : Int) : recB op = decide (7 ≤ op ∧ op ≤ 9) := by
  rw [Bool.eq_iff_iff]
  simp only [recB, Bool.or_eq_true, beq_iff_eq, decide_eq_true_eq]
  omega
theorem numB_iff (k : Int) : numB k = decide (0 ≤ k ∧ k ≤ 1) := by
  rw [Bool.eq_iff_iff]
  simp only [numB, Bool.or_eq_true, beq_iff_eq, decide_eq_true_eq]
  omega
/-- Not two numbers or nulls by a sign: the error. -/
theorem do_bad {op k i k' i' : Int} (h : doOk op k k' = false) : doK op k i k' i' = 0 ∧ doI op k i k' i' = 0 ∧ doE op k i k' i' = 3 := by simp [doK, doI, doE, h]
theorem do_null {op k i k' i' : Int} (h : doOk op k k' = true) (hn : doNull k k' = true) : doK op k i k' i' = 0 ∧ doI op k i k' i' = 0 ∧ doE op k i k' i' = 0 := by simp [doK, doI, doE, h, hn]
theorem do_some {op k i k' i' : Int} (h : doOk op k k' = true) (hn : doNull k k' = false) (hf : fits (byI op i i') = true) : doK op k i k' i' = 1 ∧ doI op k i k' i' = fitV (byI op i i') ∧ doE op k i k' i' = 0 := by simp [doK, doI, doE, h, hn, hf, fitV]
theorem do_over {op k i k' i' : Int} (h : doOk op k k' = true) (hn : doNull k k' = false) (hf : fits (byI op i i') = false) : doK op k i k' i' = 0 ∧ doI op k i k' i' = 0 ∧ doE op k i k' i' = 5 := by simp [doK, doI, doE, h, hn, hf]
theorem ok_of {op k k' : Int} (h1 : 7 ≤ op) (h2 : op ≤ 9) (h3 : 0 ≤ k) (h4 : k ≤ 1) (h5 : 0 ≤ k') (h6 : k' ≤ 1) : doOk op k k' = true := by simp [doOk, recB_iff, numB_iff, h1, h2, h3, h4, h5, h6]

section
variable (op k i : Int) (s : ByteArray) (k' i' : Int) (s' : ByteArray) (w : World)
end
end Go.Proofs.Ytfdjnhnchibejaa
