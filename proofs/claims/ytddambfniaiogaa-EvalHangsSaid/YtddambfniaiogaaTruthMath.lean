/- Layer 13: what is true of rows: plain mathematics. No condition. -/
import Derived.Test.YtddambfniaiogaaEvalMath
import Derived.Test.YtddambfniaiogaaLogic4
import Derived.Test.YtddambfniaiogaaTree7
namespace Go.Proofs.Ytddambfniaiogaa
open Go.RowKit

def nullP (y : Vl × Int) : Bool := y.2 == 0 && y.1.k == 0
def testP (op : Int) (a b : Vl × Int) : Int := if a.2 = 0 ∧ b.2 = 0 then testT op (cmpB a.1.k b.1.k) (cmpN a.1.k a.1.i a.1.s b.1.k b.1.i b.1.s) else 2
def oneT (op : Int) (y : Vl × Int) (t : Int) : Int := if op = 12 then notT t else if op = 13 then ofT (nullP y) else if op = 14 then notT (ofT (nullP y)) else 2
def twoT (op : Int) (a b : Vl × Int) (s t : Int) : Int := if op = 10 then andT s t else if op = 11 then orT s t else if 1 ≤ op ∧ op ≤ 6 then testP op a b else 2
def evalT (env : List (List Vl)) : Ex → Int
  | .mk op _ _ _ _ _ _ _ l =>
    match l with
    | [a] => oneT op (evalV env a) (evalT env a)
    | [a, b] => twoT op (evalV env a) (evalV env b) (evalT env a) (evalT env b)
    | _ => 2
termination_by e => SizeOf.sizeOf e
decreasing_by all_goals (simp; omega)
theorem evalT_one {env : List (List Vl)} {e : Ex} (hl : e.l.length = 1) : evalT env e = oneT e.op (evalV env (e.l[0]'(by omega))) (evalT env (e.l[0]'(by omega))) := by
  obtain ⟨op, tab, name, t, c, vk, vi, vs, l⟩ := e
  simp only [Ex.op, Ex.l] at hl ⊢
  match l, hl with
  | [a], _ => rw [evalT.eq_def]; simp
theorem evalT_two {env : List (List Vl)} {e : Ex} (hl : e.l.length = 2) : evalT env e = twoT e.op (evalV env (e.l[0]'(by omega))) (evalV env (e.l[1]'(by omega))) (evalT env (e.l[0]'(by omega))) (evalT env (e.l[1]'(by omega))) := by
  obtain ⟨op, tab, name, t, c, vk, vi, vs, l⟩ := e
  simp only [Ex.op, Ex.l] at hl ⊢
  match l, hl with
  | [a, b], _ => rw [evalT.eq_def]; simp
theorem evalT_else {env : List (List Vl)} {e : Ex} (h1 : ¬ e.l.length = 1) (h2 : ¬ e.l.length = 2) : evalT env e = 2 := by
  obtain ⟨op, tab, name, t, c, vk, vi, vs, l⟩ := e
  simp only [Ex.l] at h1 h2
  match l, h1, h2 with
  | [], _, _ => rw [evalT.eq_def]
  | [a], h, _ => exact absurd rfl h
  | [a, b], _, h => exact absurd rfl h
  | a :: b :: c :: l, _, _ => rw [evalT.eq_def]
theorem evalT_args {env : List (List Vl)} {e : Ex} (h : ¬ (e.l.length : Int) = argsI e.op) : evalT env e = 2 := by
  by_cases h1 : e.l.length = 1
  · rw [evalT_one h1]
    unfold argsI at h
    rw [h1] at h
    unfold oneT
    repeat (split at h <;> try omega)
    all_goals (rw [if_neg (by omega), if_neg (by omega), if_neg (by omega)])
  · by_cases h2 : e.l.length = 2
    · rw [evalT_two h2]
      unfold argsI at h
      rw [h2] at h
      unfold twoT
      repeat (split at h <;> try omega)
      all_goals (rw [if_neg (by omega), if_neg (by omega), if_neg (by omega)])
    · exact evalT_else h1 h2
theorem andL_two (s t : Int) (hs : s = 0 ∨ s = 1 ∨ s = 2) (ht : t = 0 ∨ t = 1 ∨ t = 2) : andL [s, t] = andT s t := by
  rcases hs with rfl | rfl | rfl <;> rcases ht with rfl | rfl | rfl <;> rfl
theorem orL_two (s t : Int) (hs : s = 0 ∨ s = 1 ∨ s = 2) (ht : t = 0 ∨ t = 1 ∨ t = 2) : orL [s, t] = orT s t := by
  rcases hs with rfl | rfl | rfl <;> rcases ht with rfl | rfl | rfl <;> rfl
theorem andL_two' (s t : Int) : andL [s, t] = andT s t := by
  simp only [andL, List.foldl, andT]
  by_cases h0 : s = 0 <;> by_cases h1 : s = 1 <;> by_cases h2 : t = 0 <;> by_cases h3 : t = 1 <;> simp_all
theorem orL_two' (s t : Int) : orL [s, t] = orT s t := by
  simp only [orL, List.foldl, orT]
  by_cases h0 : s = 0 <;> by_cases h1 : s = 1 <;> by_cases h2 : t = 0 <;> by_cases h3 : t = 1 <;> simp_all
end Go.Proofs.Ytddambfniaiogaa
