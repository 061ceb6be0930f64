/- Layer 39: what reading leaves, number for number: plain mathematics. No condition but that bytes are below 256. -/
import Derived.Test.YtcokhgomibimcaaCodeMath3
namespace Go.Proofs.Ytcokhgomibimcaa

/-- A number from the front: it, what is left, and whether reading has failed. -/
def numS (s : List Nat × Bool) : Int × List Nat × Bool := match scan s.1 0 0 with
  | none => (0, [], true)
  | some zn => (uz zn.1, s.1.drop zn.2, s.2)
theorem numS_none {s : List Nat × Bool} (h : scan s.1 0 0 = none) : numS s = (0, [], true) := by unfold numS; rw [h]
theorem numS_some {s : List Nat × Bool} {z n : Nat} (h : scan s.1 0 0 = some (z, n)) : numS s = (uz z, s.1.drop n, s.2) := by unfold numS; rw [h]
def bytesOk (l : List Nat) : Prop := ∀ x ∈ l, x < 256
theorem numS_left (s : List Nat × Bool) : (numS s).2.1.length ≤ s.1.length ∧ ∀ x ∈ (numS s).2.1, x ∈ s.1 := by
  rcases h : scan s.1 0 0 with _ | ⟨z, n⟩
  · rw [numS_none h]; simp
  · rw [numS_some h]
    exact ⟨by simp, fun x hx => List.mem_of_mem_drop hx⟩
theorem numS_ok {s : List Nat × Bool} (h : bytesOk s.1) : bytesOk (numS s).2.1 := fun x hx => h x ((numS_left s).2 x hx)
theorem numS_bd {s : List Nat × Bool} (h : bytesOk s.1) : -9223372036854775808 ≤ (numS s).1 ∧ (numS s).1 ≤ 9223372036854775807 := by
  rcases h2 : scan s.1 0 0 with _ | ⟨z, n⟩
  · rw [numS_none h2]; constructor <;> decide
  · rw [numS_some h2]
    exact uz_bd z (vb_scan s.1 h z n h2).1
/-- Failed once, failed for good. -/
theorem numS_failed {s : List Nat × Bool} (h : s.2 = true) : (numS s).2.2 = true := by
  rcases h2 : scan s.1 0 0 with _ | ⟨z, n⟩
  · rw [numS_none h2]
  · rw [numS_some h2]; exact h
/-- So many numbers. -/
def numsS : Nat → List Nat × Bool → List Int × List Nat × Bool
  | 0, s => ([], s)
  | k + 1, s => ((numsS k s).1 ++ [(numS (numsS k s).2).1], (numS (numsS k s).2).2)
theorem numsS_len (k : Nat) (s : List Nat × Bool) : (numsS k s).1.length = k := by
  induction k with
  | zero => rfl
  | succ k ih => simp [numsS, ih]
theorem numsS_left (k : Nat) (s : List Nat × Bool) : (numsS k s).2.1.length ≤ s.1.length ∧ ∀ x ∈ (numsS k s).2.1, x ∈ s.1 := by
  induction k with
  | zero => exact ⟨Nat.le_refl _, fun x hx => hx⟩
  | succ k ih =>
    have h := numS_left (numsS k s).2
    exact ⟨Nat.le_trans h.1 ih.1, fun x hx => ih.2 x (h.2 x hx)⟩
theorem numsS_ok {k : Nat} {s : List Nat × Bool} (h : bytesOk s.1) : bytesOk (numsS k s).2.1 := fun x hx => h x ((numsS_left k s).2 x hx)
theorem numsS_bd {s : List Nat × Bool} (h : bytesOk s.1) (k : Nat) : ∀ n ∈ (numsS k s).1, -9223372036854775808 ≤ n ∧ n ≤ 9223372036854775807 := by
  induction k with
  | zero => intro n hn; cases hn
  | succ k ih =>
    intro n hn
    simp only [numsS, List.mem_append, List.mem_singleton] at hn
    rcases hn with hn | rfl
    · exact ih n hn
    · exact numS_bd (numsS_ok h)
theorem numsS_failed (k : Nat) {s : List Nat × Bool} (h : s.2 = true) : (numsS k s).2.2 = true := by
  induction k with
  | zero => exact h
  | succ k ih => exact numS_failed ih
/-- How many there are. -/
def cntS (s : List Nat × Bool) : Nat × List Nat × Bool := if (numS s).1 < 0 ∨ (numS s).2.1.length < (numS s).1 then (0, [], true) else ((numS s).1.toNat, (numS s).2)
theorem cntS_left (s : List Nat × Bool) : (cntS s).2.1.length ≤ s.1.length ∧ (∀ x ∈ (cntS s).2.1, x ∈ s.1) ∧ (cntS s).1 ≤ (cntS s).2.1.length := by
  unfold cntS
  have h := numS_left s
  split
  · simp
  · rename_i h2
    exact ⟨h.1, h.2, by show (numS s).1.toNat ≤ (numS s).2.1.length; omega⟩
theorem cntS_ok {s : List Nat × Bool} (h : bytesOk s.1) : bytesOk (cntS s).2.1 := fun x hx => h x ((cntS_left s).2.1 x hx)
theorem cntS_failed {s : List Nat × Bool} (h : s.2 = true) : (cntS s).2.2 = true := by
  unfold cntS
  split
  · rfl
  · exact numS_failed h
/-- Numbers behind how many there are. -/
def intsS (s : List Nat × Bool) : List Int × List Nat × Bool := numsS (cntS s).1 (cntS s).2
/-- What is left from a place on. -/
def leftS (l : List Nat) (n : Int) : List Nat × Bool := if n < 0 ∨ l.length < n then ([], true) else (l.drop n.toNat, false)
theorem leftS_left (l : List Nat) (n : Int) : (leftS l n).1.length ≤ l.length ∧ ∀ x ∈ (leftS l n).1, x ∈ l := by
  unfold leftS
  split
  · simp
  · exact ⟨by simp, fun x hx => List.mem_of_mem_drop hx⟩
theorem leftS_ok {l : List Nat} (h : bytesOk l) (n : Int) : bytesOk (leftS l n).1 := fun x hx => h x ((leftS_left l n).2 x hx)
/-- The number at a place, the place behind it, and whether it is one. -/
def getI (l : List Nat) (n : Int) : Int × Int × Bool := if (numS (leftS l n)).2.2 = true then (0, 0, false) else ((numS (leftS l n)).1, l.length - ((numS (leftS l n)).2.1.length : Int), true)
def getIs (l : List Nat) (n : Int) : List Int × Int × Bool := if (intsS (leftS l n)).2.2 = true then ([], 0, false) else ((intsS (leftS l n)).1, l.length - ((intsS (leftS l n)).2.1.length : Int), true)
end Go.Proofs.Ytcokhgomibimcaa
