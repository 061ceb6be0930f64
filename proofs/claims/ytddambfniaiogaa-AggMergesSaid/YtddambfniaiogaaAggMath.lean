/- What an aggregate tells of values: its state, fed one by one, and by definition. No condition. -/
import Derived.Test.YtddambfniaiogaaEvalMath
import Derived.Test.YtddambfniaiogaaArith6
namespace Go.Proofs.Ytddambfniaiogaa
open Go.RowKit

/-- An aggregate's state: how many values, how many whole ones, whether one is no number, the numbers' sum and how many, the best one. -/
structure AccS where
  op : Int
  rows : Nat
  whole : Nat
  wrong : Bool
  z : Int
  zn : Nat
  best : Vl
def orderV (x y : Vl) : Int := ordV x.k x.i x.s y.k y.i y.s
def betterB (op : Int) (v b : Vl) : Bool := if op = 20 then decide (orderV v b < 0) else decide (0 < orderV v b)
def startS (op : Int) : AccS := ⟨op, 0, 0, false, 0, 0, zV⟩
def feedS (a : AccS) (v : Vl) : AccS :=
  if v.k = 0 then { a with rows := a.rows + 1 }
  else ⟨a.op, a.rows + 1, a.whole + 1, if v.k = 1 then a.wrong else true, if v.k = 1 then a.z + v.i else a.z, if v.k = 1 then a.zn + 1 else a.zn, if a.whole = 0 ∨ betterB a.op v a.best = true then v else a.best⟩
def accL (op : Int) (l : List Vl) : AccS := l.foldl feedS (startS op)
def resS (a : AccS) : Vl × Int :=
  if a.op = 17 then (⟨1, a.rows, (⟨#[]⟩ : ByteArray)⟩, 0)
  else if a.op = 18 then (⟨1, a.whole, (⟨#[]⟩ : ByteArray)⟩, 0)
  else if a.op = 19 then (if a.wrong = true then (zV, 3) else if a.whole = 0 then (zV, 0) else if fits a.z = true then (⟨1, a.z, (⟨#[]⟩ : ByteArray)⟩, 0) else (zV, 5))
  else if a.op = 20 ∨ a.op = 21 then (if a.whole = 0 then (zV, 0) else (a.best, 0))
  else (zV, 3)
/-- The values that are not null; the numbers; the best. -/
def someL (l : List Vl) : List Vl := l.filter fun v => !(v.k == 0)
def numL (l : List Vl) : List Int := (l.filter fun v => v.k == 1).map Vl.i
def bestL (op : Int) (l : List Vl) : Vl := (l.foldl (fun (p : Nat × Vl) v => (p.1 + 1, if p.1 = 0 ∨ betterB op v p.2 = true then v else p.2)) (0, zV)).2
theorem bestL_count (op : Int) (l : List Vl) : (l.foldl (fun (p : Nat × Vl) v => (p.1 + 1, if p.1 = 0 ∨ betterB op v p.2 = true then v else p.2)) (0, zV)).1 = l.length := by
  have : ∀ (l : List Vl) (q : Nat × Vl), (l.foldl (fun (p : Nat × Vl) v => (p.1 + 1, if p.1 = 0 ∨ betterB op v p.2 = true then v else p.2)) q).1 = q.1 + l.length := by
    intro l
    induction l with
    | nil => intro q; rfl
    | cons v l ih => intro q; rw [List.foldl_cons, ih]; simp; omega
  rw [this]; simp
theorem bestL_snoc (op : Int) (l : List Vl) (v : Vl) : bestL op (l ++ [v]) = if l.length = 0 ∨ betterB op v (bestL op l) = true then v else bestL op l := by
  have h := bestL_count op l
  unfold bestL at *
  rw [List.foldl_append, List.foldl_cons, List.foldl_nil]
  simp only [h]
theorem someL_snoc (l : List Vl) (v : Vl) : someL (l ++ [v]) = if v.k = 0 then someL l else someL l ++ [v] := by
  unfold someL
  rw [List.filter_append]
  by_cases h : v.k = 0
  · simp [h]
  · simp [h]
theorem numL_snoc (l : List Vl) (v : Vl) : numL (l ++ [v]) = if v.k = 1 then numL l ++ [v.i] else numL l := by
  unfold numL
  rw [List.filter_append, List.map_append]
  by_cases h : v.k = 1
  · simp [h]
  · simp [h]
theorem sumL_snoc (l : List Int) (z : Int) : sumL (l ++ [z]) = sumL l + z := by
  unfold sumL
  rw [List.foldl_append]
  rfl
/-- The state, by definition. -/
def defS (op : Int) (l : List Vl) : AccS := ⟨op, l.length, (someL l).length, (someL l).any fun v => !(v.k == 1), sumL (numL (someL l)), (numL (someL l)).length, bestL op (someL l)⟩
theorem accL_snoc (op : Int) (l : List Vl) (v : Vl) : accL op (l ++ [v]) = feedS (accL op l) v := by
  unfold accL
  rw [List.foldl_append]
  rfl
theorem list_snoc {α : Type} {P : List α → Prop} (h0 : P []) (h1 : ∀ l x, P l → P (l ++ [x])) (l : List α) : P l := by
  have : ∀ m : List α, P m.reverse := by
    intro m
    induction m with
    | nil => exact h0
    | cons x m ih => rw [List.reverse_cons]; exact h1 _ _ ih
  have h := this l.reverse
  rwa [List.reverse_reverse] at h
theorem accL_def (op : Int) (l : List Vl) : accL op l = defS op l := by
  refine list_snoc (P := fun l => accL op l = defS op l) rfl (fun l v ih => ?_) l
  rw [accL_snoc, ih]
  unfold feedS defS
  by_cases h0 : v.k = 0
  · rw [if_pos h0, someL_snoc, if_pos h0]
    simp
  · rw [if_neg h0, someL_snoc, if_neg h0]
    simp only [List.length_append, List.length_cons, List.length_nil, Nat.zero_add, AccS.mk.injEq, true_and]
    refine ⟨?_, ?_, ?_, ?_⟩
    · rw [List.any_append]
      by_cases h1 : v.k = 1
      · rw [if_pos h1]; simp [h1]
      · rw [if_neg h1]; simp [h1]
    · rw [numL_snoc]
      by_cases h1 : v.k = 1
      · rw [if_pos h1, if_pos h1, sumL_snoc]
      · rw [if_neg h1, if_neg h1]
    · rw [numL_snoc]
      by_cases h1 : v.k = 1
      · rw [if_pos h1, if_pos h1]; simp
      · rw [if_neg h1, if_neg h1]
    · rw [bestL_snoc]
/-- What it tells, by definition. -/
def tellS (op : Int) (l : List Vl) : Vl × Int := resS (defS op l)
theorem accL_op (op : Int) (l : List Vl) : (accL op l).op = op := by rw [accL_def]; rfl
theorem someL_le (l : List Vl) : (someL l).length ≤ l.length := List.length_filter_le _ _
theorem numL_le (l : List Vl) : (numL l).length ≤ l.length := by unfold numL; rw [List.length_map]; exact List.length_filter_le _ _
theorem accL_bounds (op : Int) (l : List Vl) : (accL op l).rows = l.length ∧ (accL op l).whole ≤ l.length ∧ (accL op l).zn ≤ l.length := by
  rw [accL_def]
  exact ⟨rfl, someL_le l, Nat.le_trans (numL_le _) (someL_le l)⟩
theorem someL_ok {l : List Vl} (h : ∀ v ∈ l, VlOk v) : ∀ v ∈ someL l, VlOk v := fun v hv => h v (List.mem_filter.1 hv).1
theorem numL_ok {l : List Vl} (h : ∀ v ∈ l, VlOk v) : ∀ z ∈ numL l, isI z := by
  intro z hz
  unfold numL at hz
  obtain ⟨v, hv, rfl⟩ := List.mem_map.1 hz
  exact isI_of_wf (h v (List.mem_filter.1 hv).1).2.1
end Go.Proofs.Ytddambfniaiogaa
