/- Layer 13: what expressions are, of rows: plain mathematics. No condition. -/
import Derived.Test.YtfdjnhnchibejaaExW
import Derived.Test.YtfdjnhnchibejaaArith3
import Derived.Test.YtfdjnhnchibejaaLogic3
namespace Go.Proofs.Ytfdjnhnchibejaa
open Go.RowKit

def zV : Vl := ⟨0, 0, ⟨#[]⟩⟩
def vlV (x : Vl) : Value := .agg #[.int .i64 x.k, .int .i64 x.i, .string x.s]
def atE (env : List (List Vl)) (t c : Int) : Vl := if 0 ≤ t ∧ t < env.length ∧ 0 ≤ c ∧ c < (env.getD t.toNat []).length then (env.getD t.toNat []).getD c.toNat zV else zV
theorem atE_in {env : List (List Vl)} {t c : Nat} (ht : t < env.length) (hc : c < env[t].length) : atE env t c = env[t][c] := by
  unfold atE
  have e : env.getD (t : Int).toNat [] = env[t] := by simp [List.getD, ht]
  rw [e, if_pos ⟨by omega, by omega, by omega, by omega⟩]
  simp [List.getD, hc]
theorem atE_out {env : List (List Vl)} {t c : Int} (h : ¬ (0 ≤ t ∧ t < env.length ∧ 0 ≤ c ∧ c < (env.getD t.toNat []).length)) : atE env t c = zV := if_neg h
theorem zV_ok : VlOk zV := ⟨by decide, by decide, by show (0 : Nat) ≤ _; omega⟩
theorem atE_ok {env : List (List Vl)} (h : RwsOk env) (t c : Int) : VlOk (atE env t c) := by
  by_cases hc : 0 ≤ t ∧ t < env.length ∧ 0 ≤ c ∧ c < (env.getD t.toNat []).length
  · obtain ⟨h1, h2, h3, h4⟩ := hc
    obtain ⟨t, rfl⟩ : ∃ n : Nat, t = n := ⟨t.toNat, by omega⟩
    obtain ⟨c, rfl⟩ : ∃ n : Nat, c = n := ⟨c.toNat, by omega⟩
    have ht : t < env.length := by omega
    have e : env.getD (t : Int).toNat [] = env[t] := by simp [List.getD, ht]
    rw [e] at h4
    have hc : c < env[t].length := by omega
    rw [atE_in ht hc]
    exact (h.2 _ (List.getElem_mem ht)).2 _ (List.getElem_mem hc)
  · rw [atE_out hc]; exact zV_ok
def doP (op : Int) (x y : Vl) : Vl × Int := (⟨doK op x.k x.i y.k y.i, doI op x.k x.i y.k y.i, ⟨#[]⟩⟩, doE op x.k x.i y.k y.i)
theorem isI_wf {a : Int} (h : isI a) : (Lit.int .i64 a).wf = true := by
  obtain ⟨h1, h2⟩ := h
  simp [Lit.wf, IntKind.min, IntKind.max, IntKind.bits, IntKind.signed]
  omega
theorem doP_ok (op : Int) (x y : Vl) : VlOk (doP op x y).1 := by
  refine ⟨?_, isI_wf ?_, by show (0 : Nat) ≤ _; omega⟩
  · show (Lit.int .i64 (doK op x.k x.i y.k y.i)).wf = true
    unfold doK
    split <;> decide
  · show isI (doI op x.k x.i y.k y.i)
    unfold doI
    split
    · rename_i h
      simp only [Bool.and_eq_true] at h
      have := h.2.2
      unfold fits at this
      simp only [Bool.and_eq_true, decide_eq_true_eq] at this
      exact this
    · unfold isI; omega
/-- What two values, or what they are told instead, come to. -/
def sidesP (op : Int) (a b : Vl × Int) : Vl × Int := if ¬ a.2 = 0 then (zV, a.2) else if ¬ b.2 = 0 then (zV, b.2) else doP op a.1 b.1
def evalV (env : List (List Vl)) : Ex → Vl × Int
  | .mk op _ _ t c vk vi vs l =>
    if op = 15 then (atE env t c, 0) else if op = 16 then (⟨vk, vi, vs⟩, 0) else if op < 7 ∨ 9 < op then (zV, 3) else
    match l with
    | [a, b] => sidesP op (evalV env a) (evalV env b)
    | _ => (zV, 3)
termination_by e => SizeOf.sizeOf e
decreasing_by all_goals (simp; omega)
theorem evalV_col {env : List (List Vl)} {e : Ex} (h : e.op = 15) : evalV env e = (atE env e.t e.c, 0) := by
  cases e; simp only [Ex.op] at h; rw [evalV.eq_def]; simp [h, Ex.t, Ex.c]
theorem evalV_val {env : List (List Vl)} {e : Ex} (h : e.op = 16) : evalV env e = (⟨e.vk, e.vi, e.vs⟩, 0) := by
  cases e; simp only [Ex.op] at h; rw [evalV.eq_def]; simp [h, Ex.vk, Ex.vi, Ex.vs]
theorem evalV_other {env : List (List Vl)} {e : Ex} (h15 : ¬ e.op = 15) (h16 : ¬ e.op = 16) (h : e.op < 7 ∨ 9 < e.op) : evalV env e = (zV, 3) := by
  cases e; simp only [Ex.op] at h h15 h16; rw [evalV.eq_def]; simp [h, h15, h16]
theorem evalV_two {env : List (List Vl)} {e : Ex} (h1 : 7 ≤ e.op) (h2 : e.op ≤ 9) (hl : e.l.length = 2) : evalV env e = sidesP e.op (evalV env (e.l[0]'(by omega))) (evalV env (e.l[1]'(by omega))) := by
  obtain ⟨op, tab, name, t, c, vk, vi, vs, l⟩ := e
  simp only [Ex.op, Ex.l] at h1 h2 hl ⊢
  match l, hl with
  | [a, b], _ =>
    rw [evalV.eq_def]
    have e1 : ¬ op = 15 := by omega
    have e2 : ¬ op = 16 := by omega
    have e3 : ¬ (op < 7 ∨ 9 < op) := by omega
    simp [e1, e2, e3]
theorem evalV_not {env : List (List Vl)} {e : Ex} (h1 : 7 ≤ e.op) (h2 : e.op ≤ 9) (hl : ¬ e.l.length = 2) : evalV env e = (zV, 3) := by
  obtain ⟨op, tab, name, t, c, vk, vi, vs, l⟩ := e
  simp only [Ex.op, Ex.l] at h1 h2 hl ⊢
  rw [evalV.eq_def]
  have e1 : ¬ op = 15 := by omega
  have e2 : ¬ op = 16 := by omega
  have e3 : ¬ (op < 7 ∨ 9 < op) := by omega
  match l, hl with
  | [], _ => simp [e1, e2, e3]
  | [a], _ => simp [e1, e2, e3]
  | [a, b], h => exact absurd rfl h
  | a :: b :: c :: l, _ => simp [e1, e2, e3]
theorem sidesP_ok {op : Int} {a b : Vl × Int} : VlOk (sidesP op a b).1 := by
  unfold sidesP
  split
  · exact zV_ok
  · split
    · exact zV_ok
    · exact doP_ok _ _ _
theorem evalV_ok {env : List (List Vl)} (he : RwsOk env) {e : Ex} (h : ExOk e) : VlOk (evalV env e).1 := by
  by_cases h15 : e.op = 15
  · rw [evalV_col h15]; exact atE_ok he _ _
  · by_cases h16 : e.op = 16
    · rw [evalV_val h16]; exact h.val
    · by_cases ho : e.op < 7 ∨ 9 < e.op
      · rw [evalV_other h15 h16 ho]; exact zV_ok
      · by_cases hl : e.l.length = 2
        · rw [evalV_two (by omega) (by omega) hl]; exact sidesP_ok
        · rw [evalV_not (by omega) (by omega) hl]; exact zV_ok
end Go.Proofs.Ytfdjnhnchibejaa
