/- Layer 27: the document's sort, in memory of its own. Condition: no more than a million numbers. -/
import Derived.Test.YtoaciliojdaoaaaKit
import Derived.Lib.SlicesCompact
import Derived.Test.YtoaciliojdaoaaaRel
import Derived.Test.YtoaciliojdaoaaaRows
import Derived.Test.YtoaciliojdaoaaaKit3
import Derived.Test.YtoaciliojdaoaaaShelf
import Derived.Lib.Hide
import Derived.OpenShut
import Derived.Deep.RegionHeld3
import Derived.Deep.DrawnRows
import Derived.Test.YtoaciliojdaoaaaReadW
import Derived.Test.YtoaciliojdaoaaaApp2
import Derived.StillTailTactics
import Derived.Deep.QuietTactic
import Derived.BigQuiet
import Derived.Test.YtoaciliojdaoaaaTab
import Derived.Test.YtoaciliojdaoaaaHead
import Derived.Lib.Bytealg
import Derived.IntWalk
import Derived.Test.YtoaciliojdaoaaaMuchR
import Derived.Test.YtoaciliojdaoaaaVal
import Derived.Deep.DeepCutAuto
import Derived.RangeFuncBox
import Derived.RangeFuncLeaves
import Derived.Shelf.Abstract
import Derived.WalkKit
import Derived.OwnWalkIn
import Derived.TacticsInMore
import Derived.LoopNIn
import Derived.LoopIn
import Derived.Maps.AppendAt
import Derived.Sort.OwnSortedInts

/- Sorted numbers, their marks, and how many lie below a number: plain mathematics. No condition. -/
namespace Go.Proofs.Ytoaciliojdaoaaa

def sortI (l : List Int) : List Int := l.mergeSort fun x y => decide (x ≤ y)
theorem sortI_len (l : List Int) : (sortI l).length = l.length := List.length_mergeSort l
theorem sortI_perm (l : List Int) : (sortI l).Perm l := List.mergeSort_perm l _
theorem sortI_pw (l : List Int) : (sortI l).Pairwise (· ≤ ·) := by
  have h := List.pairwise_mergeSort (le := fun x y : Int => decide (x ≤ y)) (fun a b c h1 h2 => by simp only [decide_eq_true_eq] at *; omega) (fun a b => by simp only [Bool.or_eq_true, decide_eq_true_eq]; omega) l
  exact h.imp fun {a b} h => by simpa using h
theorem sortI_uniq {l s : List Int} (hp : s.Perm l) (hs : s.Pairwise (· ≤ ·)) : s = sortI l :=
  List.Perm.eq_of_pairwise (le := fun a b : Int => a ≤ b) (fun a b _ _ h1 h2 => by omega) hs (sortI_pw l) (hp.trans (sortI_perm l).symm)
theorem sortI_nil : sortI [] = [] := by simp [sortI]
/-- One more number, put in where it belongs. -/
theorem sortI_snoc (l : List Int) (x : Int) (k : Nat) (h1 : ∀ y ∈ (sortI l).take k, y ≤ x) (h2 : ∀ y ∈ (sortI l).drop k, x ≤ y) :
    (sortI l).take k ++ [x] ++ (sortI l).drop k = sortI (l ++ [x]) := by
  refine sortI_uniq ?_ ?_
  · refine List.Perm.trans (l₂ := (sortI l).take k ++ (sortI l).drop k ++ [x]) ?_ ?_
    · rw [List.append_assoc, List.append_assoc]
      exact List.Perm.append_left _ List.perm_append_comm
    · rw [List.take_append_drop]
      exact (sortI_perm l).append_right _
  · have hp := sortI_pw l
    rw [List.pairwise_append, List.pairwise_append]
    refine ⟨⟨hp.sublist (List.take_sublist _ _), by simp, fun a ha b hb => ?_⟩, hp.sublist (List.drop_sublist _ _), fun a ha b hb => ?_⟩
    · simp at hb; subst hb; exact h1 a ha
    · rcases List.mem_append.1 ha with ha | ha
      · have := List.take_append_drop k (sortI l)
        rw [← this, List.pairwise_append] at hp
        exact hp.2.2 a ha b hb
      · simp at ha; subst ha; exact h2 b hb
theorem sorted_le {s : List Int} (hs : s.Pairwise (· ≤ ·)) {i j : Nat} (hij : i ≤ j) (hj : j < s.length) : s[i]'(by omega) ≤ s[j] := by
  rcases Nat.lt_or_ge i j with h | h
  · exact List.pairwise_iff_getElem.1 hs i j (by omega) hj h
  · have : i = j := by omega
    subst this; exact Int.le_refl _
/-- How many are below. -/
def belowN (l : List Int) (n : Int) : Nat := l.countP fun x => decide (x < n)
theorem belowN_le (l : List Int) (n : Int) : belowN l n ≤ l.length := List.countP_le_length
theorem belowN_succ {l : List Int} {j : Nat} (h : j < l.length) (n : Int) : belowN (l.take (j + 1)) n = belowN (l.take j) n + if l[j] < n then 1 else 0 := by
  unfold belowN
  rw [List.take_succ_eq_append_getElem h, List.countP_append]
  congr 1
  by_cases hx : l[j] < n <;> simp [hx]
theorem belowN_sort (l : List Int) (n : Int) : belowN (sortI l) n = belowN l n := (sortI_perm l).countP_eq _
theorem belowN_at : ∀ (s : List Int) (_ : s.Pairwise (· ≤ ·)) (n : Int) (i : Nat) (h : i < s.length), s[i] < n ↔ i < belowN s n
  | [], _, _, i, h => by simp at h
  | x :: s, hs, n, 0, h => by
    rw [List.pairwise_cons] at hs
    simp only [List.getElem_cons_zero, belowN, List.countP_cons]
    constructor
    · intro hx; simp [hx]
    · intro hp
      rcases Int.lt_or_le x n with hx | hx
      · exact hx
      · exfalso
        have h0 : s.countP (fun x => decide (x < n)) = 0 := List.countP_eq_zero.2 (fun y hy => by have := hs.1 y hy; simp; omega)
        have hn : ¬ x < n := by omega
        rw [h0] at hp
        simp [hn] at hp
  | x :: s, hs, n, i + 1, h => by
    rw [List.pairwise_cons] at hs
    have ih := belowN_at s hs.2 n i (by simpa using h)
    simp only [List.getElem_cons_succ, belowN, List.countP_cons]
    rcases Int.lt_or_le x n with hx | hx
    · rw [ih]; simp [hx, belowN]
    · have h0 : s.countP (fun x => decide (x < n)) = 0 := List.countP_eq_zero.2 (fun y hy => by have := hs.1 y hy; simp; omega)
      have h1 := hs.1 (s[i]'(by simpa using h)) (List.getElem_mem _)
      simp only [h0]
      constructor
      · intro _; omega
      · intro hp
        exfalso
        have : ¬ x < n := by omega
        simp [this] at hp
/-- The marks. -/
def marksI (l : List Int) : List Int := if l.length = 0 then [] else (List.range 9).map fun i => (sortI l).getD (i * (l.length - 1) / 8) 0
theorem marksI_nil {l : List Int} (h : l.length = 0) : marksI l = [] := if_pos h
theorem marksI_len {l : List Int} (h : ¬ l.length = 0) : (marksI l).length = 9 := by simp [marksI, h]
theorem marks_place {n i : Nat} (hn : ¬ n = 0) (hi : i < 9) : i * (n - 1) / 8 < n := by
  have h1 : i * (n - 1) ≤ 8 * (n - 1) := Nat.mul_le_mul_right _ (by omega)
  have h2 : i * (n - 1) / 8 ≤ 8 * (n - 1) / 8 := Nat.div_le_div_right h1
  rw [Nat.mul_div_cancel_left _ (by decide)] at h2
  omega
theorem marksI_at {l : List Int} (h : ¬ l.length = 0) {i : Nat} (hi : i < 9) : (marksI l)[i]? = some ((sortI l)[i * (l.length - 1) / 8]'(by rw [sortI_len]; exact marks_place h hi)) := by
  simp only [marksI, if_neg h, List.getElem?_map]
  rw [List.getElem?_range hi]
  simp only [Option.map_some, List.getD]
  rw [List.getElem?_eq_getElem (by rw [sortI_len]; exact marks_place h hi)]
  rfl
theorem marksI_pw (l : List Int) : (marksI l).Pairwise (· ≤ ·) := by
  by_cases h : l.length = 0
  · rw [marksI_nil h]; exact List.Pairwise.nil
  · rw [List.pairwise_iff_getElem]
    intro i j hi hj hij
    rw [marksI_len h] at hi hj
    have e1 := marksI_at h hi
    have e2 := marksI_at h hj
    rw [List.getElem?_eq_getElem (by rw [marksI_len h]; exact hi)] at e1
    rw [List.getElem?_eq_getElem (by rw [marksI_len h]; exact hj)] at e2
    injection e1 with e1
    injection e2 with e2
    rw [e1, e2]
    exact sorted_le (sortI_pw l) (Nat.div_le_div_right (Nat.mul_le_mul_right _ (by omega))) (by rw [sortI_len]; exact marks_place h hj)
theorem marks_below {l : List Int} (h : ¬ l.length = 0) (n : Int) {i : Nat} (hi : i < 9) : i < belowN (marksI l) n ↔ i * (l.length - 1) / 8 < belowN l n := by
  rw [← belowN_at (marksI l) (marksI_pw l) n i (by rw [marksI_len h]; exact hi), ← belowN_sort l n, ← belowN_at (sortI l) (sortI_pw l) n _ (by rw [sortI_len]; exact marks_place h hi)]
  have e1 := marksI_at h hi
  rw [List.getElem?_eq_getElem (by rw [marksI_len h]; exact hi)] at e1
  injection e1 with e1
  rw [e1]
theorem marks_zero (l : List Int) (n : Int) (h0 : belowN (marksI l) n = 0) : belowN l n = 0 := by
  by_cases h : l.length = 0
  · have := belowN_le l n; omega
  · have := marks_below h n (i := 0) (by decide)
    simp at this
    omega
theorem marks_nine (l : List Int) (n : Int) (h9 : belowN (marksI l) n = 9) : belowN l n = l.length := by
  by_cases h : l.length = 0
  · rw [marksI_nil h] at h9; simp [belowN] at h9
  · have h8 := (marks_below h n (i := 8) (by decide)).1 (by omega)
    rw [Nat.mul_div_cancel_left _ (by decide)] at h8
    have := belowN_le l n
    omega
theorem marks_between (l : List Int) (n : Int) (h0 : ¬ belowN (marksI l) n = 0) (h9 : ¬ belowN (marksI l) n = 9) :
    belowN (marksI l) n < 9 ∧ ¬ l.length = 0 ∧ (belowN (marksI l) n - 1) * (l.length - 1) / 8 < belowN l n ∧ belowN l n ≤ belowN (marksI l) n * (l.length - 1) / 8 := by
  by_cases h : l.length = 0
  · rw [marksI_nil h] at h0; simp [belowN] at h0
  · have hl := belowN_le (marksI l) n
    rw [marksI_len h] at hl
    refine ⟨by omega, h, (marks_below h n (by omega)).1 (by omega), ?_⟩
    have h2 := marks_below h n (i := belowN (marksI l) n) (by omega)
    omega
end Go.Proofs.Ytoaciliojdaoaaa

/- Layer 21: numbers that rise, each once: plain mathematics. No condition. -/
namespace Go.Proofs.Ytoaciliojdaoaaa

def Rising (l : List Int) : Prop := l.Pairwise (· < ·)
theorem Rising.nodup {l : List Int} (h : Rising l) : l.Nodup := List.Pairwise.imp (fun {a b} (h : a < b) => by omega) h
theorem Rising.le {l : List Int} (h : Rising l) : l.Pairwise (· ≤ ·) := List.Pairwise.imp (fun {a b} (h : a < b) => by omega) h
theorem rising_of {l : List Int} (h : l.Pairwise (· ≤ ·)) (hn : l.Nodup) : Rising l :=
  (List.Pairwise.and h hn).imp fun {a b} ⟨h1, h2⟩ => by omega
theorem rising_ext {l m : List Int} (hl : Rising l) (hm : Rising m) (h : ∀ x, x ∈ l ↔ x ∈ m) : l = m :=
  List.Perm.eq_of_pairwise (le := fun a b : Int => a ≤ b) (fun a b _ _ h1 h2 => by omega) hl.le hm.le ((List.perm_ext_iff_of_nodup hl.nodup hm.nodup).2 h)
/-- The numbers of a list, rising, each once. -/
def setI : List Int → List Int
  | [] => []
  | x :: l => if x ∈ l then setI l else sortI (x :: setI l)
theorem setI_mem (l : List Int) (x : Int) : x ∈ setI l ↔ x ∈ l := by
  induction l with
  | nil => simp [setI]
  | cons y l ih =>
    unfold setI
    split
    · rename_i h
      rw [ih, List.mem_cons]
      constructor
      · exact Or.inr
      · rintro (rfl | h') <;> assumption
    · rw [(sortI_perm _).mem_iff, List.mem_cons, List.mem_cons, ih]
theorem setI_rising (l : List Int) : Rising (setI l) := by
  induction l with
  | nil => exact List.Pairwise.nil
  | cons y l ih =>
    unfold setI
    split
    · exact ih
    · rename_i h
      refine rising_of (sortI_pw _) ((sortI_perm _).nodup_iff.2 ?_)
      rw [List.nodup_cons]
      exact ⟨fun hm => h ((setI_mem l y).1 hm), ih.nodup⟩
theorem setI_uniq {m l : List Int} (h : Rising m) (hm : ∀ x, x ∈ m ↔ x ∈ l) : m = setI l :=
  rising_ext h (setI_rising l) fun x => (hm x).trans (setI_mem l x).symm
theorem setI_congr {l m : List Int} (h : ∀ x, x ∈ l ↔ x ∈ m) : setI l = setI m := setI_uniq (setI_rising l) fun x => (setI_mem l x).trans (h x)
theorem setI_self {l : List Int} (h : Rising l) : setI l = l := (setI_uniq h fun _ => Iff.rfl).symm
theorem setI_same_iff (l : List Int) : setI l = l ↔ Rising l := ⟨fun h => h ▸ setI_rising l, setI_self⟩
theorem sortI_setI {l m : List Int} (hn : l.Nodup) (h : ∀ x, x ∈ l ↔ x ∈ m) : sortI l = setI m :=
  setI_uniq (rising_of (sortI_pw l) ((sortI_perm l).nodup_iff.2 hn)) fun x => ((sortI_perm l).mem_iff).trans (h x)
theorem setI_len (l : List Int) : (setI l).length ≤ l.length := by
  induction l with
  | nil => exact Nat.le_refl _
  | cons y l ih =>
    unfold setI
    split
    · simp; omega
    · rw [sortI_len]; simp; omega
/-- One more, put in where it belongs. -/
theorem setI_put {l : List Int} {v : Int} (hv : v ∉ l) (k : Nat) (h1 : ∀ y ∈ (setI l).take k, y < v) (h2 : ∀ y ∈ (setI l).drop k, v ≤ y) : (setI l).take k ++ [v] ++ (setI l).drop k = setI (l ++ [v]) := by
  have hn : v ∉ setI l := fun h => hv ((setI_mem l v).1 h)
  refine setI_uniq ?_ fun x => ?_
  · have hp := setI_rising l
    unfold Rising at *
    rw [List.pairwise_append, List.pairwise_append]
    refine ⟨⟨hp.sublist (List.take_sublist _ _), by simp, fun a ha b hb => ?_⟩, hp.sublist (List.drop_sublist _ _), fun a ha b hb => ?_⟩
    · simp at hb; subst hb; exact h1 a ha
    · rcases List.mem_append.1 ha with ha | ha
      · have := List.take_append_drop k (setI l)
        rw [← this, List.pairwise_append] at hp
        exact hp.2.2 a ha b hb
      · simp at ha
        subst ha
        have h3 := h2 b hb
        have h4 : a ≠ b := fun e => hn (by rw [e]; exact List.mem_of_mem_drop hb)
        omega
  · rw [List.mem_append, List.mem_append, List.mem_append, ← setI_mem l x]
    constructor
    · rintro ((h | h) | h)
      · exact Or.inl (List.mem_of_mem_take h)
      · exact Or.inr h
      · exact Or.inl (List.mem_of_mem_drop h)
    · rintro (h | h)
      · rw [← List.take_append_drop k (setI l)] at h
        rcases List.mem_append.1 h with h | h
        · exact Or.inl (Or.inl h)
        · exact Or.inr h
      · exact Or.inl (Or.inr h)
theorem setI_snoc_in {l : List Int} {v : Int} (hv : v ∈ l) : setI (l ++ [v]) = setI l := setI_congr fun x => by
  rw [List.mem_append, List.mem_singleton]
  constructor
  · rintro (h | h)
    · exact h
    · rw [h]; exact hv
  · exact Or.inl
theorem setI_nil : setI [] = [] := rfl

/-- What both have; has the other one each of it. -/
def sharedI (a b : List Int) : List Int := setI (a.filter fun x => decide (x ∈ b))
theorem sharedI_mem (a b : List Int) (x : Int) : x ∈ sharedI a b ↔ x ∈ a ∧ x ∈ b := by
  unfold sharedI
  rw [setI_mem, List.mem_filter, decide_eq_true_iff]
theorem sharedI_comm (a b : List Int) : sharedI a b = sharedI b a := setI_congr fun x => by simp [and_comm]
def withinI (a b : List Int) : Bool := a.all fun x => decide (x ∈ b)
theorem withinI_iff (a b : List Int) : withinI a b = true ↔ ∀ x ∈ a, x ∈ b := by
  unfold withinI
  rw [List.all_eq_true]
  exact ⟨fun h x hx => by simpa using h x hx, fun h x hx => by simpa using h x hx⟩
theorem withinI_snoc {a b : List Int} {x : Int} (h : withinI a b = true) (hx : x ∈ b) : withinI (a ++ [x]) b = true := by
  rw [withinI_iff] at *
  intro y hy
  rcases List.mem_append.1 hy with hy | hy
  · exact h y hy
  · rw [List.mem_singleton.1 hy]; exact hx
theorem withinI_not {a b : List Int} {x : Int} (h : x ∈ a) (hx : x ∉ b) : withinI a b = false := by
  cases h' : withinI a b
  · rfl
  · exact absurd ((withinI_iff a b).1 h' x h) hx
end Go.Proofs.Ytoaciliojdaoaaa

/- Layer 16: a sorted list without what comes twice: plain mathematics. No condition. -/
namespace Go.Proofs.Ytoaciliojdaoaaa

theorem compact_up (d : Array Int) (hs : ∀ i j, i ≤ j → j < d.size → d[i]! ≤ d[j]!) : ∀ m, m ≤ d.size → Rising (Lib.compactUpTo d m) ∧ ∀ x, x ∈ Lib.compactUpTo d m ↔ ∃ j, j < m ∧ d[j]! = x
  | 0, _ => ⟨List.Pairwise.nil, fun x => by simp [Lib.compactUpTo]⟩
  | m + 1, hm => by
    obtain ⟨h1, h2⟩ := compact_up d hs m (by omega)
    rw [Lib.compactUpTo_succ]
    by_cases hk : m = 0 ∨ d[m]! ≠ d[m - 1]!
    · have e : Lib.keeps d m = true := decide_eq_true hk
      rw [e, if_pos rfl]
      refine ⟨?_, fun x => ?_⟩
      · unfold Rising at *
        rw [List.pairwise_append]
        refine ⟨h1, List.pairwise_singleton _ _, fun a ha b hb => ?_⟩
        rw [List.mem_singleton] at hb
        subst hb
        obtain ⟨j, hj, rfl⟩ := (h2 a).1 ha
        rcases hk with hk | hk
        · omega
        · have q1 := hs j (m - 1) (by omega) (by omega)
          have q2 := hs (m - 1) m (by omega) (by omega)
          omega
      · rw [List.mem_append, h2, List.mem_singleton]
        constructor
        · rintro (⟨j, hj, q⟩ | q)
          · exact ⟨j, by omega, q⟩
          · exact ⟨m, by omega, q.symm⟩
        · rintro ⟨j, hj, q⟩
          by_cases hjm : j = m
          · subst hjm; exact Or.inr q.symm
          · exact Or.inl ⟨j, by omega, q⟩
    · have e : Lib.keeps d m = false := decide_eq_false hk
      rw [e, if_neg (by simp), List.append_nil]
      refine ⟨h1, fun x => ?_⟩
      rw [h2]
      have hm0 : m ≠ 0 := fun h => hk (Or.inl h)
      have he : d[m]! = d[m - 1]! := Classical.byContradiction fun h => hk (Or.inr h)
      constructor
      · rintro ⟨j, hj, q⟩
        exact ⟨j, by omega, q⟩
      · rintro ⟨j, hj, q⟩
        by_cases hjm : j = m
        · subst hjm; exact ⟨j - 1, by omega, by rw [← he]; exact q⟩
        · exact ⟨j, by omega, q⟩
theorem compact_sort (l : List Int) : Lib.compact (sortI l) = setI l := by
  have hs : ∀ i j, i ≤ j → j < (sortI l).toArray.size → (sortI l).toArray[i]! ≤ (sortI l).toArray[j]! := fun i j hij hj => by
    have hj' : j < (sortI l).length := by simpa using hj
    have := sorted_le (sortI_pw l) hij hj'
    simpa [getElem!_pos, hj', (by omega : i < (sortI l).length)] using this
  obtain ⟨h1, h2⟩ := compact_up (sortI l).toArray hs (sortI l).length (by simp)
  unfold Lib.compact
  refine setI_uniq h1 fun x => ?_
  rw [h2, ← (sortI_perm l).mem_iff]
  constructor
  · rintro ⟨j, hj, rfl⟩
    simp only [List.getElem!_toArray]
    rw [getElem!_pos (sortI l) j hj]
    exact List.getElem_mem hj
  · intro hx
    obtain ⟨j, hj, rfl⟩ := List.getElem_of_mem hx
    exact ⟨j, hj, by simp only [List.getElem!_toArray]; rw [getElem!_pos (sortI l) j hj]⟩
end Go.Proofs.Ytoaciliojdaoaaa

/- Rows that lie in memory that was there at first, or in new blocks of their type. No condition. -/
namespace Go.Proofs.Ytoaciliojdaoaaa
open Go.RowKit

/-- A row of the first world u, or one in a block of its type, from u's end on. -/
def MRow (u w : World) : Rw := fun e A xs => Row u A xs ∨ TRow u.heap.size w e A xs
section
variable {u w w' : World} {e e' : TypeId} {A : Option Addr} {xs : List Value}
theorem MRow.old (h : Row u A xs) : MRow u w e A xs := Or.inl h
theorem MRow.nil : MRow u w e A [] := Or.inl (Or.inl rfl)
theorem MRow.own {size n c : Nat} (h : w.ownsRow u.heap.size e size (.slice A n c) n xs) : MRow u w e A xs := Or.inr (TRow.own h)
theorem MRow.plain (h : MRow u w e A xs) (g : Grew u w) : Row w A xs := by
  rcases h with h | h
  · exact h.grew g
  · exact h.plain
theorem MRow.prow (g : Grew u w) : ∀ e A xs, MRow u w e A xs → PRow w e A xs := fun _ _ _ h => h.plain g
theorem MRow.grew (h : MRow u w e A xs) (g : Grew w w') : MRow u w' e A xs := h.imp id fun h => h.grew g
theorem MRow.turns {g : Nat} (h : MRow u w e A xs) (k : Turns w w' g) {cs : Array Value} (hb : Blok w g e' cs) (hne : e ≠ e') : MRow u w' e A xs := h.imp id fun h => h.apart k hb hne
theorem MRow.grown {base size n : Nat} {v : Value} {ys : List Value} (h : MRow u w e A xs) (ho : w.ownsRow base e' size v n ys) (hne : e ≠ e') (k : w.grownBy w' v.ownBlock) : MRow u w' e A xs :=
  h.imp id fun h => h.grown ho hne k
/-- A row of one's own in an earlier world, seen from the first one. -/
theorem MRow.low {u' : World} (h : MRow u' w e A xs) (g : Grew u u') (hu : ∀ A xs, Row u' A xs → MRow u w e A xs) : MRow u w e A xs := by
  rcases h with h | h
  · exact hu _ _ h
  · exact Or.inr (h.low g.size)
end
/-- A row of one's own, as a block. -/
theorem own_blok {w : World} {base n : Nat} {e : TypeId} {size : Nat} {v : Value} {xs : List Value} (h : w.ownsRow base e size v n xs) (hx : xs ≠ []) :
    ∃ g cap cur, v = .slice (some ⟨g, 0, none⟩) n cap ∧ base ≤ g ∧ n ≤ cap ∧ Blok w g e cur ∧ ∀ (j : Nat) (y : Value), xs[j]? = some y → cur[j]? = some y := by
  rcases h.2 with ⟨h1, h2⟩ | ⟨g, cap, cur, h1, h2, h3, h4, h5, h6, h7⟩
  · exact absurd (List.eq_nil_of_length_eq_zero (by rw [h.1, h2, Nat.zero_mul])) hx
  · refine ⟨g, cap, cur, h1, h2, h4, h3, fun j y hy => ?_⟩
    rw [← h7] at hy
    have hj : j < n * size := by
      rcases Nat.lt_or_ge j (n * size) with h | h
      · exact h
      · rw [List.getElem?_eq_none (by rw [List.length_take]; omega)] at hy; cases hy
    rw [List.getElem?_take_of_lt hj] at hy
    simpa using hy
theorem own_cap' {w : World} {base n c : Nat} {e : TypeId} {size : Nat} {A : Option Addr} {xs : List Value} (h : w.ownsRow base e size (.slice A n c) n xs) : n ≤ c := by
  rcases h.2 with ⟨h1, h2⟩ | ⟨g, cap, cur, h1, h2, h3, h4, h5⟩
  · omega
  · injection h1 with _ _ h1
    omega
/-- One cell of a row is set. -/
theorem row_set {w : World} {g o i : Nat} {xs : List Value} {t : TypeId} {cs : Array Value} (h : Row w (some ⟨g, o, none⟩) xs) (hb : Blok w g t cs) (hi : i < xs.length) (v : Value) : Row (w.setCell ⟨g, o + i, none⟩ v) (some ⟨g, o, none⟩) (xs.set i v) := by
  rcases h with h | ⟨b', o', hA, hlt, hc⟩
  · subst h; simp at hi
  · injection hA with hA
    injection hA with e1 e2 _
    subst e1 e2
    have hb2 := hb.set (o + i) v
    refine Or.inr ⟨g, o, rfl, by simpa [World.setCell] using hlt, fun j u hu => ?_⟩
    rw [hb2.cell]
    rw [List.getElem?_set] at hu
    have hci := hc i _ (List.getElem?_eq_getElem hi)
    rw [hb.cell] at hci
    have hsz : o + i < cs.size := by
      rcases Nat.lt_or_ge (o + i) cs.size with h | h
      · exact h
      · rw [Array.getElem?_eq_none h] at hci; cases hci
    by_cases hij : i = j
    · subst hij
      simp [hi] at hu
      subst hu
      rw [Array.getElem?_setIfInBounds_self_of_lt hsz]
    · rw [if_neg hij] at hu
      rw [Array.getElem?_setIfInBounds_ne (by omega), ← hb.cell]
      exact hc j u hu
end Go.Proofs.Ytoaciliojdaoaaa

/- Layer 26: counts that stay within bounds, by the program and by the document's own answer. No condition but the numbers' own bounds. -/
namespace Go.Proofs.Ytoaciliojdaoaaa
open Go.RowKit
attribute [local go_sem] more_cell more_frozen more_more more_setCell more_of_drew more_of_drewN lt_more le_more past_cell past_cell2 past_frozen past_frozen2 past_setCell past_setCell2 mid_cell mid_frozen mid_setCell
attribute [local go_sem ↓] Go.wp_at_zero Go.wp_at_succ

def cutI (n : Int) : Int := if n < 0 then 0 else if 4611686018427387904 < n then 4611686018427387904 else n
def sI (n : Int) : Prop := 0 ≤ n ∧ n ≤ 4611686018427387904
theorem cutI_s (n : Int) : sI (cutI n) := by unfold cutI sI; split <;> (try split) <;> omega
theorem cutI_self {n : Int} (h : sI n) : cutI n = n := by unfold sI at h; unfold cutI; rw [if_neg (by omega), if_neg (by omega)]
def plusI (x y : Int) : Int := if 4611686018427387904 < x + y then 4611686018427387904 else x + y
def timesI (x y : Int) : Int := if 4611686018427387904 < x * y then 4611686018427387904 else x * y
theorem plusI_s {x y : Int} (hx : sI x) (hy : sI y) : sI (plusI x y) := by unfold sI at *; unfold plusI; split <;> omega
theorem timesI_s {x y : Int} (hx : sI x) (hy : sI y) : sI (timesI x y) := by
  have h := Int.mul_nonneg hx.1 hy.1
  unfold sI timesI
  split <;> omega
theorem ret_u64 {a b : Int} (h : a = b) : Ending.returned (.int .u64 a) = .returned (.int .u64 b) := by rw [h]
def foldP (l : List Int) (a : Int) : Int := l.foldl (fun a n => plusI a (cutI n)) a
def foldM (l : List Int) (a : Int) : Int := l.foldl (fun a n => timesI a (cutI n)) a
theorem foldP_s (l : List Int) : ∀ a, sI a → sI (foldP l a) := by
  induction l with
  | nil => intro a h; exact h
  | cons x l ih => intro a h; exact ih _ (plusI_s h (cutI_s x))
theorem foldM_s (l : List Int) : ∀ a, sI a → sI (foldM l a) := by
  induction l with
  | nil => intro a h; exact h
  | cons x l ih => intro a h; exact ih _ (timesI_s h (cutI_s x))
theorem take_one26 (l : List Int) (k : Nat) (h : k < l.length) : l.take (k + 1) = l.take k ++ [l[k]] := List.take_succ_eq_append_getElem h
theorem foldP_take (l : List Int) (a : Int) (k : Nat) (h : k < l.length) : foldP (l.take (k + 1)) a = plusI (foldP (l.take k) a) (cutI l[k]) := by
  rw [take_one26 l k h]
  unfold foldP
  rw [List.foldl_append]
  rfl
theorem foldM_take (l : List Int) (a : Int) (k : Nat) (h : k < l.length) : foldM (l.take (k + 1)) a = timesI (foldM (l.take k) a) (cutI l[k]) := by
  rw [take_one26 l k h]
  unfold foldM
  rw [List.foldl_append]
  rfl
def foldPAt (l : List Int) (a : Int) (x i : Value) : Prop := ∃ k : Nat, k ≤ l.length ∧ i = .int .i64 k ∧ x = .int .u64 (foldP (l.take k) a)
def foldMAt (l : List Int) (a : Int) (x i : Value) : Prop := ∃ k : Nat, k ≤ l.length ∧ i = .int .i64 k ∧ x = .int .u64 (foldM (l.take k) a)
end Go.Proofs.Ytoaciliojdaoaaa

/- Layer 27: what is said of a table, and what is left of it. No condition. -/
namespace Go.Proofs.Ytoaciliojdaoaaa
open Go.RowKit

/-- What is said of a column: how many unlike ones, how many that are none, its marks. -/
structure Cst where
  u : Int
  n : Int
  m : List Int
deriving DecidableEq
instance cst_some : Inhabited Cst := ⟨⟨0, 0, []⟩⟩
structure Sst where
  rows : Int
  cols : List Cst
deriving DecidableEq
instance sst_some : Inhabited Sst := ⟨⟨0, []⟩⟩
theorem Cst.ext' {a b : Cst} (h1 : a.u = b.u) (h2 : a.n = b.n) (h3 : a.m = b.m) : a = b := by
  cases a; cases b; simp_all
theorem Sst.ext' {a b : Sst} (h1 : a.rows = b.rows) (h2 : a.cols = b.cols) : a = b := by
  cases a; cases b; simp_all

def nearI (n high : Int) : Int := if n < 0 then 0 else if high < n then high else n
theorem nearI_in {n high : Int} (h : 0 ≤ high) : 0 ≤ nearI n high ∧ nearI n high ≤ high := by
  unfold nearI
  split
  · omega
  · split <;> omega
theorem nearI_self {n high : Int} (h1 : 0 ≤ n) (h2 : n ≤ high) : nearI n high = n := by
  unfold nearI
  rw [if_neg (by omega), if_neg (by omega)]
theorem nearI_twice {n high : Int} (h : 0 ≤ high) : nearI (nearI n high) high = nearI n high := nearI_self (nearI_in h).1 (nearI_in h).2
def heldC (rows : Int) (x : Cst) : Cst := ⟨nearI x.u (rows - nearI x.n rows), nearI x.n rows, sortI (x.m.take 9)⟩
def colAt (s : Sst) (c : Nat) : Cst := s.cols.getD c default
def heldN (cols : Int) : Nat := (nearI cols 16).toNat
theorem heldN_le (cols : Int) : heldN cols ≤ 16 := by
  unfold heldN
  have := nearI_in (n := cols) (high := 16) (by decide)
  omega
def heldP (s : Sst) (k : Nat) : List Cst := (List.range k).map fun c => heldC (cutI s.rows) (colAt s c)
def heldS (s : Sst) (cols : Int) : Sst := ⟨cutI s.rows, heldP s (heldN cols)⟩
theorem heldP_len (s : Sst) (k : Nat) : (heldP s k).length = k := by simp [heldP]
theorem heldP_snoc (s : Sst) (k : Nat) : heldP s (k + 1) = heldP s k ++ [heldC (cutI s.rows) (colAt s k)] := by simp [heldP, List.range_succ]
theorem sortI_twice (l : List Int) : sortI (sortI l) = sortI l := (sortI_uniq (List.Perm.refl _) (sortI_pw l)).symm
theorem heldC_twice {rows : Int} (h : 0 ≤ rows) (x : Cst) : heldC rows (heldC rows x) = heldC rows x := by
  have h1 := nearI_in (n := x.n) h
  have h2 : nearI (nearI x.n rows) rows = nearI x.n rows := nearI_twice h
  refine Cst.ext' ?_ h2 ?_
  · show nearI (nearI x.u (rows - nearI x.n rows)) (rows - nearI (nearI x.n rows) rows) = _
    rw [h2]
    exact nearI_twice (by omega)
  · show sortI ((sortI (x.m.take 9)).take 9) = sortI (x.m.take 9)
    rw [List.take_of_length_le (by rw [sortI_len, List.length_take]; omega), sortI_twice]
theorem cutI_twice (n : Int) : cutI (cutI n) = cutI n := cutI_self (cutI_s n)
theorem heldS_twice (s : Sst) (cols : Int) : heldS (heldS s cols) cols = heldS s cols := by
  refine Sst.ext' (cutI_twice _) ?_
  show heldP (heldS s cols) (heldN cols) = heldP s (heldN cols)
  unfold heldP
  refine List.map_congr_left fun c hc => ?_
  have hc' : c < heldN cols := by simpa using hc
  have e1 : cutI (heldS s cols).rows = cutI s.rows := cutI_twice _
  have e2 : colAt (heldS s cols) c = heldC (cutI s.rows) (colAt s c) := by
    show (heldP s (heldN cols)).getD c default = _
    rw [List.getD_eq_getElem?_getD, List.getElem?_eq_getElem (by rw [heldP_len]; exact hc')]
    simp [heldP]
  rw [e1, e2]
  exact heldC_twice (cutI_s s.rows).1 _

def CstR (R : Rw) (c : Cst) (cs : List Value) : Prop := ∃ A k, cs = [.int .i64 c.u, .int .i64 c.n, .slice A c.m.length k] ∧ c.m.length ≤ k ∧ R 3 A (iV c.m)
theorem CstR.imp {R R' : Rw} {c : Cst} {cs : List Value} (h : CstR R c cs) (H : ∀ A xs, R 3 A xs → R' 3 A xs) : CstR R' c cs := by
  obtain ⟨A, k, h1, h0, h2⟩ := h
  exact ⟨A, k, h1, h0, H _ _ h2⟩
theorem cstR_one {R : Rw} {c : Cst} {cs : List Value} (h : CstR R c cs) : ∀ u ∈ cs, u.oneCell' = true := by
  obtain ⟨A, k, rfl, _⟩ := h
  intro u hu
  simp at hu
  rcases hu with rfl | rfl | rfl <;> rfl
section
variable {H : Type} {enc : TypeId × Value → H} {W : World}
theorem rdw_iS : RdW enc Try.prog W 3 1 (fun (x : Int) cs => cs = [.int .i64 x] ∧ (Lit.int .i64 x).wf = true) := rdw_of (rd_int Try.underlying3 (by kernel_rfl))
theorem rdw_isS : RdW enc Try.prog W 30 1 (fun (l : List Int) cs => ∃ A c, cs = [.slice A l.length c] ∧ l.length ≤ c ∧ Row W A (iV l)) :=
  rdw_map (rdw_slice Try.underlying30 (by kernel_rfl) (by decide) (bytes := 8) (by kernel_rfl) rdw_iS) fun l cs ⟨A, c, css, h1, h2, _, _, h3, h4⟩ => ⟨A, c, h1, h2, (nums_row h3 h4).1⟩
end
end Go.Proofs.Ytoaciliojdaoaaa

/- Layer 21: whether two lists of numbers are the same. No condition. -/
namespace Go.Proofs.Ytoaciliojdaoaaa
open Go.RowKit
attribute [local go_sem] more_cell more_frozen more_more more_setCell more_of_drew more_of_drewN lt_more le_more past_cell past_cell2 past_frozen past_frozen2 past_setCell past_setCell2 mid_cell mid_frozen mid_setCell
attribute [local go_sem ↓] Go.wp_at_zero Go.wp_at_succ

theorem irow_some {w : World} {A : Option Addr} {l : List Int} {j : Nat} (h : Row w A (iV l)) (hj : j < l.length) : ∃ b o, A = some ⟨b, o, none⟩ := by
  rcases h with h1 | ⟨b, o, hA, _⟩
  · unfold iV at h1
    rw [List.map_eq_nil_iff] at h1
    subst h1
    simp at hj
  · exact ⟨b, o, hA⟩
theorem irow_cell {w : World} {b o i : Nat} {x : Int} {l : List Int} (h : Row w (some ⟨b, o, none⟩) (iV l)) (hi : i < l.length) (hx : l[i] = x) : b < w.heap.size ∧ w.cell? ⟨b, o + i, none⟩ = some (.int .i64 x) := by
  subst hx
  rcases h with h | ⟨b', o', hA, hb, hc⟩
  · unfold iV at h
    rw [List.map_eq_nil_iff] at h
    subst h
    simp at hi
  · injection hA with hA
    injection hA with e1 e2 _
    subst e1 e2
    exact ⟨hb, hc i _ (by simp [iV, hi])⟩
def SameAt (w : World) (a b : List Int) (i : Value) (wr : World) : Prop := ∃ j : Nat, j ≤ a.length ∧ i = .int .i64 j ∧ a.take j = b.take j ∧ Grew w wr
theorem take_more {a b : List Int} {j : Nat} (ha : j < a.length) (hb : j < b.length) (h : a.take j = b.take j) (he : a[j] = b[j]) : a.take (j + 1) = b.take (j + 1) := by
  rw [List.take_succ_eq_append_getElem ha, List.take_succ_eq_append_getElem hb, h, he]
set_option maxRecDepth 100000 in
theorem samelist_any (a b : List Int) (A B : Option Addr) (c d : Nat) (w : World) (ha : Row w A (iV a)) (hb : Row w B (iV b)) (hl : a.length ≤ 1000000000000000) (hm : b.length ≤ 1000000000000000) :
    Gives Try.prog 19 #[.slice A a.length c, .slice B b.length d] w (.bool (decide (a = b))) := by
  unfold Gives
  obtain ⟨r, hr⟩ : ∃ r, decide (a = b) = r := ⟨_, rfl⟩
  have HR := Lib.hid hr
  rw [hr]
  clear hr
  have HA := Lib.hid ha
  have HB := Lib.hid hb
  clear ha hb
  by_cases hlen : a.length = b.length
  · have el : ((a.length : Int) != (b.length : Int)) = false := by simp; omega
    have HL := Lib.hid hlen
    clear hlen
    have HG0 : Hid (Grew w w) := Lib.hid (Grew.refl w)
    go_enter Try.func19, Try.ntmps19
    go_wp2
    go_loopw [5] (fun i wr => SameAt w a b i wr) (fun i _ => a.length - (intOf i).toNat)
    case atStart => exact ⟨0, Nat.zero_le _, rfl, by simp, HG0.out⟩
    case round =>
      obtain ⟨j, hj, rfl, ht, hg⟩ := hrel
      have HT := Lib.hid ht
      have HG := Lib.hid hg
      clear ht hg
      by_cases h : j < a.length
      · have hb2 : j < b.length := by have := HL.out; omega
        obtain ⟨p, o, rfl⟩ := irow_some HA.out h
        obtain ⟨q, o2, rfl⟩ := irow_some HB.out hb2
        obtain ⟨p1, c1⟩ := irow_cell (HA.out.grew HG.out) h rfl
        obtain ⟨p2, c2⟩ := irow_cell (HB.out.grew HG.out) hb2 rfl
        by_cases he : a[j] = b[j]
        · have HT2 := Lib.hid (take_more h hb2 HT.out he)
          rw [← he] at c2
          have en : (a[j] != a[j]) = false := by simp
          clear he
          generalize a[j] = x at *
          go_wp2
          go_quiet (fail)
          go_wp2
          exact ⟨⟨j + 1, by omega, by go_num, HT2.out, HG.out.drewN _⟩, by simp only [intOf]; omega⟩
        · have HR2 : Hid (r = false) := Lib.hid (by
            rw [← HR.out]
            apply decide_eq_false
            intro hab
            subst hab
            exact he rfl)
          have en : (a[j] != b[j]) = true := by simp [he]
          clear he
          generalize a[j] = x at *
          generalize b[j] = y at *
          go_wp2
          go_quiet (fail)
          go_wp2
          go_ret
          rw [HR2.out]
          exact ⟨rfl, HG.out.drewN _⟩
      · obtain rfl : j = a.length := by omega
        have HR2 : Hid (r = true) := Lib.hid (by
          rw [← HR.out]
          apply decide_eq_true
          have h2 := HT.out
          rw [List.take_length, HL.out, List.take_length] at h2
          exact h2)
        go_wp2
        go_ret
        rw [HR2.out]
        exact ⟨rfl, HG.out⟩
  · have el : ((a.length : Int) != (b.length : Int)) = true := by simp; omega
    have HR2 : Hid (r = false) := Lib.hid (by
      rw [← HR.out]
      apply decide_eq_false
      intro hab
      exact hlen (by rw [hab]))
    clear hlen
    go_enter Try.func19, Try.ntmps19
    go_wp2
    go_ret
    rw [HR2.out]
    exact ⟨rfl, _, (more_self w).symm⟩
end Go.Proofs.Ytoaciliojdaoaaa

/- Small words on rows and tables in memory. No condition. -/
namespace Go.Proofs.Ytoaciliojdaoaaa
open Go.RowKit

theorem lt_some {α : Type} {l : List α} {i : Nat} {x : α} (h : l[i]? = some x) : i < l.length := by
  rcases Nat.lt_or_ge i l.length with hlt | hge
  · exact hlt
  · rw [List.getElem?_eq_none hge] at h; cases h
theorem Row.front {w : World} {A : Option Addr} {xs ys : List Value} (h : Row w A (xs ++ ys)) : Row w A xs := by
  rcases h with h | ⟨b, o, hA, hb, hc⟩
  · exact Or.inl (List.append_eq_nil_iff.1 h).1
  · exact Or.inr ⟨b, o, hA, hb, fun j u hu => hc j u (by rw [List.getElem?_append_left (lt_some hu)]; exact hu)⟩
theorem Row.take_flat {w : World} {A : Option Addr} {css : List (List Value)} (h : Row w A css.flatten) (i : Nat) : Row w A (css.take i).flatten := by
  rw [← List.take_append_drop i css, List.flatten_append] at h
  exact h.front
theorem ListR.take {α : Type} {R : α → List Value → Prop} {size : Nat} {l : List α} {css : List (List Value)} (h : ListR R size l css) (i : Nat) : ListR R size (l.take i) (css.take i) := by
  refine ⟨by simp [h.1], fun j x cs h1 h2 => ?_⟩
  have hj : j < i := by have := lt_some h1; simp at this; omega
  rw [List.getElem?_take_of_lt hj] at h1 h2
  exact h.2 j x cs h1 h2
theorem Grew.cell {w w' : World} (h : Grew w w') {a : Addr} (ha : a.block < w.heap.size) : w'.cell? a = w.cell? a := by
  obtain ⟨x, rfl⟩ := h
  exact more_cell w x a ha
def tbV (x : Tb) (A : Option Addr) (k : Nat) (B : Option Addr) (j : Nat) : Value := .agg #[.string x.name, .slice A x.cols.length k, .slice B x.rows.length j]
def clV (x : Cl) : Value := .agg #[.string x.name, .int .i64 x.kind]
theorem txt_ext {a b : ByteArray} (h : a.toList = b.toList) : a = b := by
  rw [ByteArray.toList_eq, ByteArray.toList_eq] at h
  obtain ⟨⟨a⟩⟩ := a
  obtain ⟨⟨b⟩⟩ := b
  simp only at h
  rw [h]
theorem bytes_toList {a b : ByteArray} : (a.toList == b.toList) = true ↔ a = b := by
  rw [beq_iff_eq]
  exact ⟨txt_ext, fun h => by rw [h]⟩
end Go.Proofs.Ytoaciliojdaoaaa

/- Layer 4: what is more than is asked of rows. Condition: rows that lie in memory that is there. -/
namespace Go.Proofs.Ytoaciliojdaoaaa
open Go.RowKit
attribute [local go_sem] more_cell more_frozen more_more more_setCell more_of_drew more_of_drewN lt_more le_more past_cell past_cell2 past_frozen past_frozen2 past_setCell past_setCell2 mid_cell mid_frozen mid_setCell
attribute [local go_sem ↓] Go.wp_at_zero Go.wp_at_succ

def szR (r : List Vl) : Nat := (r.map fun v => 1 + v.s.size).sum
def szRs (l : List (List Vl)) : Nat := (l.map szR).sum
theorem szR_take {r : List Vl} {k : Nat} (h : k < r.length) : szR (r.take (k + 1)) = szR (r.take k) + (1 + r[k].s.size) := by
  unfold szR
  rw [List.take_succ_eq_append_getElem h, List.map_append, List.sum_append]
  simp
theorem szRs_take {r : List (List Vl)} {k : Nat} (h : k < r.length) : szRs (r.take (k + 1)) = szRs (r.take k) + szR r[k] := by
  unfold szRs
  rw [List.take_succ_eq_append_getElem h, List.map_append, List.sum_append]
  simp
theorem szR_leB {r : List Vl} {B : Nat} (h : ∀ v ∈ r, v.s.size ≤ B) : ∀ k, szR (r.take k) ≤ k * (B + 1)
  | 0 => by simp [szR]
  | k + 1 => by
    have h1 := szR_leB h k
    rw [Nat.add_mul, Nat.one_mul]
    rcases Nat.lt_or_ge k r.length with hk | hk
    · have h2 := h _ (List.getElem_mem hk)
      rw [szR_take hk]
      omega
    · rw [List.take_of_length_le (by omega)] at h1 ⊢
      omega
theorem szR_le {r : List Vl} (h : ∀ v ∈ r, VlOk v) (k : Nat) : szR (r.take k) ≤ k * 140737488355329 := szR_leB (fun v hv => (h v hv).2.2) k
def goodRws (l : List (List Vl)) : Prop := l.length ≤ 50 ∧ (∀ r ∈ l, r.length ≤ 40) ∧ szRs l ≤ 2000
def In4At (r : List Vl) (m0 : Nat) (n i : Value) : Prop := ∃ k m : Nat, k ≤ r.length ∧ i = .int .i64 k ∧ n = .int .i64 m ∧ m = m0 + szR (r.take k)
def Much4At (w : World) (l : List (List Vl)) (n i : Value) (wr : World) : Prop :=
  ∃ j m : Nat, j ≤ l.length ∧ i = .int .i64 j ∧ n = .int .i64 m ∧ m = szRs (l.take j) ∧ m ≤ 2000 ∧ Grew w wr ∧ ∀ r ∈ l.take j, r.length ≤ 40
end Go.Proofs.Ytoaciliojdaoaaa

/- Layer 4: the document's Same and SameList of rows. Condition: rows that lie in memory that is there. -/
namespace Go.Proofs.Ytoaciliojdaoaaa
open Go.RowKit
attribute [local go_sem] more_cell more_frozen more_more more_setCell more_of_drew more_of_drewN lt_more le_more past_cell past_cell2 past_frozen past_frozen2 past_setCell past_setCell2 mid_cell mid_frozen mid_setCell
attribute [local go_sem ↓] Go.wp_at_zero Go.wp_at_succ

theorem sameV_iff (x y : Vl) : sameV x.k x.i x.s y.k y.i y.s = true ↔ x = y := by
  unfold sameV
  obtain ⟨k, i, s⟩ := x
  obtain ⟨k', i', s'⟩ := y
  simp only [Bool.and_eq_true, beq_iff_eq, Vl.mk.injEq]
  exact ⟨fun ⟨h1, h2, h3⟩ => ⟨h1, h2, txt_ext h3⟩, fun ⟨h1, h2, h3⟩ => ⟨h1, h2, by rw [h3]⟩⟩
theorem not_of {p : Prop} {t : Bool} (h : t = true ↔ p) (hn : ¬ p) : t = false := by
  cases t
  · rfl
  · exact absurd (h.1 rfl) hn
theorem some_of (p : Prop) : ∃ t : Bool, (t = true ↔ p) := by
  by_cases h : p
  · exact ⟨true, by simp [h]⟩
  · exact ⟨false, by simp [h]⟩
theorem take_eq {α : Type} {l m : List α} {j : Nat} (h : l.take j = m.take j) (h1 : j < l.length) (h2 : j < m.length) (he : l[j] = m[j]) : l.take (j + 1) = m.take (j + 1) := by
  rw [List.take_succ_eq_append_getElem h1, List.take_succ_eq_append_getElem h2, h, he]
def EqR4 {α : Type} (w : World) (l m : List α) (i : Value) (wr : World) : Prop := ∃ j : Nat, j ≤ l.length ∧ i = .int .i64 j ∧ Grew w wr ∧ l.take j = m.take j
end Go.Proofs.Ytoaciliojdaoaaa

/- Layer 27: small words on what is said, by the document. Condition: what lies in memory that is there. -/
namespace Go.Proofs.Ytoaciliojdaoaaa
open Go.RowKit
attribute [local go_sem] more_cell more_frozen more_more more_setCell more_of_drew more_of_drewN lt_more le_more past_cell past_cell2 past_frozen past_frozen2 past_setCell past_setCell2 mid_cell mid_frozen mid_setCell
attribute [local go_sem ↓] Go.wp_at_zero Go.wp_at_succ

theorem cst_cases (x y : Cst) : ((x.n == y.n) = false) ∨ (x.n = y.n ∧ (x.u == y.u) = false) ∨ (x.n = y.n ∧ x.u = y.u) := by
  by_cases h1 : x.n = y.n
  · by_cases h2 : x.u = y.u
    · exact Or.inr (Or.inr ⟨h1, h2⟩)
    · exact Or.inr (Or.inl ⟨h1, by simpa using h2⟩)
  · exact Or.inl (by simpa using h1)
def EqCs (w : World) (l m : List Cst) (i : Value) (wr : World) : Prop := ∃ j : Nat, j ≤ l.length ∧ i = .int .i64 j ∧ Grew w wr ∧ l.take j = m.take j
def goodS (s : Sst) : Prop := s.cols.length ≤ 30 ∧ ∀ c ∈ s.cols, c.m.length ≤ 60
def MuchSAt (w : World) (l : List Cst) (i : Value) (wr : World) : Prop := ∃ j : Nat, j ≤ l.length ∧ j ≤ 40 ∧ i = .int .i64 j ∧ Grew w wr ∧ ∀ c ∈ l.take j, c.m.length ≤ 60
end Go.Proofs.Ytoaciliojdaoaaa

/- slices.Values, slices.AppendSeq, slices.Collect, slices.Sorted over a row of numbers. Condition: no more than a million of them. -/
namespace Go.Proofs.Ytoaciliojdaoaaa
open Go.RowKit Go.Shelf Go.Proofs
attribute [local go_sem] Oper.semAt_some

theorem iV_getD {l : List Int} {j : Nat} (h : j < l.length) : (iV l)[j]? = some (.int .i64 (l[j]?.getD 0)) := by
  simp [iV, h]
/-- What the closure of slices.Values hands on, one by one. -/
theorem vals_in (n : Nat) (hn : 1 ≤ n) (l Bs : Nat) (A : Option Addr) (k : Nat) (zs : List Int) (hz : zs.length ≤ 1000000) (w : World) (hr : Row w A (iV zs)) (J Jx : List Int → World → Prop)
    (hY : ∀ pre x W, J pre W → pre.length < zs.length → YieldAt Fence.wide (n - 1) Try.prog l #[.int .i64 x] W fun e W' =>
      (e = .returned (.bool true) ∧ J (pre ++ [x]) W' ∧ Below w.heap.size W W') ∨ (e = .returned (.bool false) ∧ Jx (pre ++ [x]) W'))
    (W : World) (hW : Below w.heap.size w W) (hBs : W.cell? ⟨Bs, 0, none⟩ = some (.slice A zs.length k)) (h0 : J [] W) :
    CallsIn Fence.wide n Try.prog 84 #[.func (.yield l) #[] #[], .pointer (some ⟨Bs, 0, none⟩)] W fun e W' => (∃ v, e = .returned v) ∧
      ((∃ ys, ys = zs ∧ J ys W') ∨ (∃ pre, pre <+: zs ∧ Jx pre W')) := by
  refine callsIn_of_wp Try.func84 rfl trivial ?_ rfl
  simp only [Try.ntmps84, List.size_toArray, List.length_cons, List.length_nil, Nat.reduceAdd, Nat.reduceSub, Array.replicate_succ, Array.replicate_zero, List.push_toArray, List.append_toArray, List.nil_append, List.cons_append]
  gi_wp2
  gi_loopw [7] (fun i wr => ∃ j : Nat, j ≤ zs.length ∧ i = .int .i64 j ∧ J (zs.take j) wr ∧ Below w.heap.size w wr) (fun i _ => zs.length - (intOf i).toNat)
  case atStart => exact ⟨0, Nat.zero_le _, rfl, by simpa using h0, hW⟩
  case round =>
    obtain ⟨j, hj, rfl, hJs, hb⟩ := hrel
    by_cases hlt : j < zs.length
    · obtain ⟨b, o, rfl, hbl, hc⟩ := (hr.grew (Grew.of_below hb)).at_ (k := j) (by simp [iV, hlt])
      have hcx : wr.cell? ⟨b, o + j, none⟩ = some (.int .i64 zs[j]) := by rw [hc]; simp [iV]
      obtain ⟨fn, tmps, assign, body, hy, hR⟩ := hY _ zs[j] wr hJs (by rw [List.length_take]; omega)
      have hnx : zs.take j ++ [zs[j]] = zs.take (j + 1) := by
        rw [List.take_succ_eq_append_getElem hlt]
      rw [hnx] at hR
      clear hc
      gi_wp2
      refine hR.mono ?_
      rintro e W3 (⟨rfl, hJ3, hk3⟩ | ⟨rfl, hJx3⟩)
      · gi_wp2
        go_roundw
        case rel => exact ⟨j + 1, by omega, by simp, hJ3, hb.trans hk3⟩
        case measure => simp [intOf]; omega
      · gi_wp2
        refine bodyPost_ret (results_none rfl _ _ _) rfl ?_
        exact ⟨⟨_, rfl⟩, .inr ⟨_, List.take_prefix _ _, hJx3⟩⟩
    · obtain rfl : j = zs.length := by omega
      gi_wp2
      go_end0
      exact ⟨⟨_, rfl⟩, .inl ⟨_, List.take_length, hJs⟩⟩
theorem vals_stops (n : Nat) (hn : 1 ≤ n) (Bs : Nat) (A : Option Addr) (k : Nat) (zs : List Int) (hz : zs.length ≤ 1000000) (w : World) (hr : Row w A (iV zs)) (hB : Bs < w.heap.size) (hBs : w.cell? ⟨Bs, 0, none⟩ = some (.slice A zs.length k)) :
    SeqStopsK Fence.wide n Try.prog 84 #[.pointer (some ⟨Bs, 0, none⟩)] (fun x : Int => #[Value.int .i64 x]) (Below w.heap.size) (fun ys => ys = zs) (fun pre => pre <+: zs) zs.length w := fun l J Jx W hW _ _ hY h0 =>
  vals_in n hn l Bs A k zs hz w hr J Jx hY W hW ((hW.cell (p := ⟨Bs, 0, none⟩) hB).trans hBs) h0
/-- slices.AppendSeq(nil, slices.Values(zs)). -/
theorem appendSeq_in (n : Nat) (hn : 3 ≤ n) (Bs : Nat) (A : Option Addr) (k : Nat) (zs : List Int) (hz : zs.length ≤ 1000000) (w : World) (hr : Row w A (iV zs)) (hB : Bs < w.heap.size) (hBs : w.cell? ⟨Bs, 0, none⟩ = some (.slice A zs.length k)) :
    CallsIn Fence.wide n Try.prog 89 #[.slice none 0 0, .func (.func 84) #[] #[.pointer (some ⟨Bs, 0, none⟩)]] w fun e W' => ∃ v, e = .returned v ∧ W'.ownsRow w.heap.size 3 1 v zs.length (iV zs) ∧ Below w.heap.size w W' := by
  have h1 : 1 ≤ n := by omega
  obtain ⟨i0, hi, hz0, hz1, hz2⟩ := info_parts infoI
  refine callsIn_of_wp_marks Try.func89 rfl trivial ?_ rfl
  simp only [Try.ntmps89, List.size_toArray, List.length_cons, List.length_nil, Nat.reduceAdd, Nat.reduceSub, Array.replicate_succ, Array.replicate_zero, List.push_toArray, List.append_toArray, List.nil_append, List.cons_append]
  gi_wp2
  have bO := Boxed.new w 30 (.slice none 0 0)
  have hB0 : Below w.heap.size w (w.alloc (.cells #[.slice none 0 0] 30)) := (Below.refl _ w).alloc (Nat.le_refl _) _
  refine wpIn_rangeFunc_ownG rfl h1 (gf := 84) (lb := #[.pointer (some ⟨Bs, 0, none⟩)]) rfl trivial (enters_of Try.func84 (by kernel_rfl) rfl)
    (vals_stops (n - 1) (by omega) Bs A k zs hz w hr hB hBs) belowK_t (belowK_b (by simp)) hB0 (fun _ => rfl)
    (fun pre W => (∃ v, Boxed W w.heap.size 30 v ∧ W.ownsRow w.heap.size 3 1 v pre.length (iV pre) ∧ (v = .slice none 0 0 ↔ pre = [])) ∧ Below w.heap.size w W)
    (fun _ _ _ => False)
    (OwnFrom.and (Own.from (holdsRow_own w.heap.size w.heap.size 30 3 1 (fun pre : List Int => pre.length) (fun pre => iV pre) (fun pre v => v = .slice none 0 0 ↔ pre = [])) _) (ownFrom_below (Nat.le_refl _) (by simp)))
    (fun _ _ _ _ _ hs _ _ => hs)
    ⟨⟨_, bO, World.ownsRow_nil _ _ _ _, by simp⟩, hB0⟩
    (fun x => { tmps := #[.slice none 0 0, .func (.func 84) #[] #[.pointer (some ⟨Bs, 0, none⟩)], .pointer (some ⟨w.heap.size, 0, none⟩), undef, .slice none 0 0, .int .i64 x, .func (.func 84) #[] #[.pointer (some ⟨Bs, 0, none⟩)], .int .i64 x, undef, undef, undef, undef, undef], defers := [] }) ?assign ?body ?done ?stop
  case assign =>
    intro l x W K hK
    gi_wp2
    exact hK
  case body =>
    rintro l pre x W ⟨⟨v, hv, hrow, hnil⟩, hB⟩ hlt
    have hc := hv.cell
    gi_wp2_with (gi_at_builtin; refine wpListIn_append_own _ rfl _ _ 30 rfl w.heap.size 3 i0 (.int .i64 0) 1 8 Try.underlying30 hi hz0 hz1 hz2 rfl (by decide) _ _ _ rfl (hrow.alloc _) ⟨W.heap.size, 0, none⟩ 1 1 [.int .i64 x] rfl rfl (cell_one_new _ _ _) (by simp [Value.oneCell']) (by unfold maxLen; omega) (by omega) (by have := hB.size; simp; omega) ?_; intro v' w1 hown' hgrow _; obtain ⟨g', cap', rfl⟩ := ownsRow_succ hown'; obtain ⟨hv1, hv2, hr2, hk2, hb2⟩ := hv.appended (by decide) hrow hB.size (Nat.le_refl _) hown' hgrow; have hc1 := hv1.cell; have hf1 := hv1.frozen)
    exact ⟨hk2.from _, hb2, ⟨_, hv2, by simpa [iV] using hr2, by simp⟩, hB.trans hb2⟩
  case done =>
    rintro D ys W hD rfl ⟨⟨v, hv, hrow, hnil⟩, hB⟩ hK
    have hc := hv.cell
    gi_wp2
    refine ⟨by simp, .inl ⟨_, _, rfl, run_takeDeferred hK, ?_⟩⟩
    exact ⟨_, results_tmp rfl _ _ _, v, rfl, ownsRow_putObj hrow _ hK rfl, hB.trans (belowK_b (w := w) (Nat.le_refl _) W D _ _ (by simp at hD; omega) hK rfl rfl)⟩
  case stop =>
    rintro D c pre W _ _ h _
    exact h.elim
/-- slices.Collect(slices.Values(zs)). -/
theorem collect_in (n : Nat) (hn : 4 ≤ n) (Bs : Nat) (A : Option Addr) (k : Nat) (zs : List Int) (hz : zs.length ≤ 1000000) (w : World) (hr : Row w A (iV zs)) (hB : Bs < w.heap.size) (hBs : w.cell? ⟨Bs, 0, none⟩ = some (.slice A zs.length k)) :
    CallsIn Fence.wide n Try.prog 83 #[.func (.func 84) #[] #[.pointer (some ⟨Bs, 0, none⟩)]] w fun e W' => ∃ v, e = .returned v ∧ W'.ownsRow w.heap.size 3 1 v zs.length (iV zs) ∧ Below w.heap.size w W' := by
  have h1 : 1 ≤ n := by omega
  refine callsIn_of_wp Try.func83 rfl trivial ?_ rfl
  simp only [Try.ntmps83, List.size_toArray, List.length_cons, List.length_nil, Nat.reduceAdd, Nat.reduceSub, Array.replicate_succ, Array.replicate_zero, List.push_toArray, List.append_toArray, List.nil_append, List.cons_append]
  have hf : Fence.wide.fn 89 := trivial
  gi_wp2_with (gi_at_call 89; refine (appendSeq_in (n - 1) (by omega) Bs A k zs hz w hr hB hBs).mono ?_; rintro e w' ⟨v, rfl, hrow, hb⟩)
  go_ret
  exact ⟨v, rfl, hrow, hb⟩
theorem collect_any (Bs : Nat) (A : Option Addr) (k : Nat) (zs : List Int) (hz : zs.length ≤ 1000000) (w : World) (hr : Row w A (iV zs)) (hB : Bs < w.heap.size) (hBs : w.cell? ⟨Bs, 0, none⟩ = some (.slice A zs.length k)) :
    Calls Try.prog 83 #[.func (.func 84) #[] #[.pointer (some ⟨Bs, 0, none⟩)]] w fun e W' => ∃ v, e = .returned v ∧ W'.ownsRow w.heap.size 3 1 v zs.length (iV zs) ∧ Below w.heap.size w W' :=
  callsIn_wide.1 (collect_in 9 (by decide) Bs A k zs hz w hr hB hBs)
end Go.Proofs.Ytoaciliojdaoaaa

/- Layer 27: numbers sorted by the library, and how many marks are below a number. Condition: no more than a million of them. -/
namespace Go.Proofs.Ytoaciliojdaoaaa
open Go.RowKit
attribute [local go_sem] more_cell more_frozen more_more more_setCell more_of_drew more_of_drewN lt_more le_more past_cell past_cell2 past_frozen past_frozen2 past_setCell past_setCell2 mid_cell mid_frozen mid_setCell
attribute [local go_sem ↓] Go.wp_at_zero Go.wp_at_succ

/-- Numbers that come back in a row. -/
def IntsF (w : World) (l : List Int) (e : Ending) (w' : World) : Prop := ∃ A k, e = .returned (.slice A l.length k) ∧ Grew w w' ∧ Row w' A (iV l)
theorem rowI_at {w : World} {A : Option Addr} {l : List Int} (h : Row w A (iV l)) {j : Nat} (hj : j < l.length) : ∃ b o, A = some ⟨b, o, none⟩ ∧ b < w.heap.size ∧ w.cell? ⟨b, o + j, none⟩ = some (.int .i64 l[j]) := by
  obtain ⟨b, o, rfl⟩ := irow_some h hj
  obtain ⟨h1, h2⟩ := irow_cell h hj rfl
  exact ⟨b, o, rfl, h1, h2⟩
theorem values_any (A : Option Addr) (n k : Nat) (w : World) : Calls Try.prog 62 #[.slice A n k] w fun e w' => e = .returned (.func (.func 84) #[] #[.pointer (some ⟨w.heap.size, 0, none⟩)]) ∧ w' = w.alloc (.cells #[.slice A n k] 30) := by
  go_enter Try.func62, Try.ntmps62
  go_wp2
  go_ret
  exact ⟨rfl, rfl⟩
theorem sorted_any (Bs : Nat) (A : Option Addr) (k : Nat) (l : List Int) (hz : l.length ≤ 1000000) (w : World) (hr : Row w A (iV l)) (hB : Bs < w.heap.size) (hBs : w.cell? ⟨Bs, 0, none⟩ = some (.slice A l.length k)) :
    Calls Try.prog 61 #[.func (.func 84) #[] #[.pointer (some ⟨Bs, 0, none⟩)]] w (IntsF w (sortI l)) := by
  have HC := Lib.hid (collect_any Bs A k l hz w hr hB hBs)
  clear hr hBs hB
  go_enter Try.func61, Try.ntmps61
  go_wp2_with fail
  refine HC.out.mono ?_
  rintro e w2 ⟨v, rfl, hrow, hb⟩
  have hl : (sortI l).length = l.length := sortI_len l
  rcases hrow.2 with ⟨rfl, h0⟩ | ⟨g, cap, cur, rfl, hbase, hgb, r1, r2, r3, r4⟩
  · have h00 : sortI l = [] := List.eq_nil_of_length_eq_zero (by omega)
    clear HC hrow
    go_wp2_with (go_at_call 68; refine (Try.slices_Sort_int_none none 0 w2).mono ?_; rintro e w' ⟨rfl, rfl⟩)
    go_ret
    rw [h00]
    exact ⟨none, 0, rfl, Grew.of_below hb, Or.inl rfl⟩
  · have hH : Go.Sort.Holds (Value.int .i64) w2 g 0 l.toArray := holds_of_blockI hgb (by simpa [iV] using r4)
    have hgl : g < w2.heap.size := (Array.getElem?_eq_some_iff.1 hgb).1
    have HS := Lib.hid (Try.slices_Sort_int g 0 cap l w2 hH hgl (by omega))
    have HO : Hid (∀ n os, (Go.Sort.grow (Go.Sort.putRow (Value.int .i64) (Go.Sort.ahead w2 n) g 0 (sortI l).toArray) os).ownsRow w.heap.size 3 1 (.slice (some ⟨g, 0, none⟩) l.length cap) l.length (iV (sortI l))) := Lib.hid fun n os => ownsRow_sortedI (ts := sortI l) hl hbase hgb r1 r2 r3
    have HG : Hid (∀ n os, Grew w (Go.Sort.grow (Go.Sort.putRow (Value.int .i64) (Go.Sort.ahead w2 n) g 0 (sortI l).toArray) os)) := Lib.hid fun n os => Grew.of_below (hb.grown (grownBy_sortedI _) hb.size (fun j hj => by cases hj; exact hbase))
    clear HC hrow hH hgl hbase hgb r1 r2 r3 r4 hb
    go_wp2_with (go_at_call 68; refine HS.out.mono ?_; rintro e w' ⟨rfl, n, os, rfl⟩)
    go_ret
    refine ⟨some ⟨g, 0, none⟩, cap, by rw [hl]; rfl, HG.out _ _, ?_⟩
    have h := HO.out n os
    rw [← hl] at h
    exact own_rowI h
def BelAt (w : World) (l : List Int) (n : Int) (c i : Value) (wr : World) : Prop := ∃ j : Nat, j ≤ l.length ∧ i = .int .i64 j ∧ c = .int .i64 (belowN (l.take j) n) ∧ Grew w wr
end Go.Proofs.Ytoaciliojdaoaaa

/- Layer 27: the document's sort. Condition: no more than a million numbers. -/
namespace Go.Proofs.Ytoaciliojdaoaaa
open Go.RowKit
attribute [local go_sem] more_cell more_frozen more_more more_setCell more_of_drew more_of_drewN lt_more le_more past_cell past_cell2 past_frozen past_frozen2 past_setCell past_setCell2 mid_cell mid_frozen mid_setCell
attribute [local go_sem ↓] Go.wp_at_zero Go.wp_at_succ

theorem row_takeI {w : World} {A : Option Addr} {l : List Int} (h : Row w A (iV l)) (q : Nat) : Row w A (iV (l.take q)) := by
  rcases h with h | ⟨b, o, hA, hb, hc⟩
  · have : l = [] := by simpa [iV] using h
    subst this
    exact Or.inl (by simp [iV])
  · refine Or.inr ⟨b, o, hA, hb, fun j u hu => hc j u ?_⟩
    simp only [iV, List.map_take] at hu ⊢
    rw [List.getElem?_take] at hu
    split at hu
    · exact hu
    · cases hu
theorem row_dropI {w : World} {A : Option Addr} {l : List Int} (h : Row w A (iV l)) (q : Nat) : Row w (A.map (fun a => a.add q)) (iV (l.drop q)) := by
  rcases h with h | ⟨b, o, hA, hb, hc⟩
  · have : l = [] := by simpa [iV] using h
    subst this
    exact Or.inl (by simp [iV])
  · subst hA
    refine Or.inr ⟨b, o + q, by simp [add_plain], hb, fun j u hu => ?_⟩
    simp only [iV, List.map_drop, List.getElem?_drop] at hu
    have := hc (q + j) u hu
    rw [Nat.add_assoc]
    exact this
theorem own_cap {w : World} {base n c : Nat} {e : TypeId} {A : Option Addr} {xs : List Value} (h : w.ownsRow base e 1 (.slice A n c) n xs) : n ≤ c := by
  rcases h.2 with ⟨h, h0⟩ | ⟨g, cap, cur, hv, _, _, h1, _⟩
  · omega
  · cases hv; exact h1
def SrtAt (w : World) (l : List Int) (v i : Value) (wr : World) : Prop := ∃ (j : Nat) (A : Option Addr) (c : Nat), j ≤ l.length ∧ i = .int .i64 j ∧ v = .slice A j c ∧ j ≤ c ∧ Grew w wr ∧ Row wr A (iV (sortI (l.take j)))
def ScanAt (w : World) (s : List Int) (x : Int) (k : Value) (wr : World) : Prop := ∃ j : Nat, j ≤ s.length ∧ k = .int .i64 j ∧ Grew w wr ∧ ∀ y ∈ s.drop j, x ≤ y
end Go.Proofs.Ytoaciliojdaoaaa

namespace Go.Proofs.Ytoaciliojdaoaaa
open Go.RowKit
attribute [local go_sem] more_cell more_frozen more_more more_setCell more_of_drew more_of_drewN lt_more le_more past_cell past_cell2 past_frozen past_frozen2 past_setCell past_setCell2 mid_cell mid_frozen mid_setCell
attribute [local go_sem ↓] Go.wp_at_zero Go.wp_at_succ

/-- Numbers that come back in a row of one's own. -/
def IntsT (w : World) (l : List Int) (e : Ending) (w' : World) : Prop := ∃ A k, e = .returned (.slice A l.length k) ∧ l.length ≤ k ∧ Grew w w' ∧ TRow w.heap.size w' 3 A (iV l)
def SrtTAt (w : World) (l : List Int) (v i : Value) (wr : World) : Prop := ∃ (j : Nat) (A : Option Addr) (c : Nat), j ≤ l.length ∧ i = .int .i64 j ∧ v = .slice A j c ∧ j ≤ c ∧ Grew w wr ∧ TRow w.heap.size wr 3 A (iV (sortI (l.take j)))
def ScanTAt (w : World) (s : List Int) (x : Int) (k : Value) (wr : World) : Prop := ∃ j : Nat, j ≤ s.length ∧ k = .int .i64 j ∧ Grew w wr ∧ ∀ y ∈ s.drop j, x ≤ y
end Go.Proofs.Ytoaciliojdaoaaa
