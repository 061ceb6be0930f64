/- append onto a row of the call's own, in fewer words: elements of one cell each; rows of numbers that are given by a function. Condition: not more elements than 2^39. -/
import Derived.Test.YtoaciliojdaoaaaHeap
import Derived.Laws.OwnMore
import Derived.Lib.Hide
import Derived.IntWalk
namespace Go.Proofs.Ytoaciliojdaoaaa
open Go.RowKit

theorem wpList_app {P : Program} {w : World} {ops : Array Oper} {rest : List Oper} {o : Oper} {a : Act} {Q : Exit → Act → World → Prop} (hgd : o.guard = none) (s x : Operand) (t e : TypeId)
    (ho : o.op = .call { callee := .builtin .append, args := #[s, x], argTypes := #[t, t] })
    (u : World) (z : Value) (bytes : Nat) (ht : P.underlying t = some (.slice e)) (hi : (P.info? e).map (fun i => (i.zero, i.size, i.bytes)) = some (some z, 1, bytes)) (hzs : z.cells.size = 1) (hb8 : bytes ≤ 64)
    (v : Value) (n : Nat) (xs : List Value) (hs : a.eval s = v) (hown : w.ownsRow u.heap.size e 1 v n xs)
    (A : Option Addr) (m c : Nat) (news : List Value) (hx : a.eval x = .slice A m c) (hl : news.length = m) (hr : Row w A news) (h1 : ∀ u ∈ news, u.oneCell' = true)
    (hsm : n + m ≤ 549755813888) (hg : Grew u w)
    (h : ∀ A' c' w', w'.ownsRow u.heap.size e 1 (.slice A' (n + m) c') (n + m) (xs ++ news) → Row w' A' (xs ++ news) → Grew u w' → w.grownBy w' v.ownBlock → ((Value.slice A' (n + m) c').ownBlock = v.ownBlock ∨ (Value.slice A' (n + m) c').ownBlock = some w.heap.size) → wpList P ops Q rest (a.put o.dst (.slice A' (n + m) c')) w') : wpList P ops Q (o :: rest) a w := by
  obtain ⟨i, hi0, hz, hs1, hb⟩ := info_parts hi
  have hbb : (n + m) * bytes ≤ 549755813888 * 64 := Nat.mul_le_mul hsm hb8
  refine wpList_append_row w hgd s x t ho u.heap.size e i z 1 bytes ht hi0 hz hs1 hb hzs (by decide) v n xs hs hown A m c news hx (by omega) hr h1 (by unfold maxLen; omega) (by omega) hg.size ?_
  intro A' c' w' ho' hr' hgb hor
  exact h A' c' w' ho' hr' (hg.grown hgb (own_base hown)) hgb hor

/-- A block that was just made, as a row. -/
theorem row_new (w : World) (e : TypeId) (b : Nat) (cs : Array Value) (hb : b = w.heap.size) : Row (w.alloc (.cells cs e)) (some ⟨b, 0, none⟩) cs.toList := by
  have h := Blok.new w e cs b hb
  refine Or.inr ⟨b, 0, rfl, h.lt, fun j u hu => ?_⟩
  rw [Nat.zero_add, h.cell, ← hu]
  simp
/-- The same for elements of more cells than one. -/
theorem wpList_apps {P : Program} {w : World} {ops : Array Oper} {rest : List Oper} {o : Oper} {a : Act} {Q : Exit → Act → World → Prop} (hgd : o.guard = none) (s x : Operand) (t e : TypeId) (size : Nat)
    (ho : o.op = .call { callee := .builtin .append, args := #[s, x], argTypes := #[t, t] })
    (u : World) (z : Value) (bytes : Nat) (ht : P.underlying t = some (.slice e)) (hi : (P.info? e).map (fun i => (i.zero, i.size, i.bytes)) = some (some z, size, bytes)) (hzs : z.cells.size = size) (hsz : 0 < size) (hb8 : bytes ≤ 256)
    (v : Value) (n : Nat) (xs : List Value) (hs : a.eval s = v) (hown : w.ownsRow u.heap.size e size v n xs)
    (A : Option Addr) (m c : Nat) (news : List Value) (hx : a.eval x = .slice A m c) (hl : news.length = m * size) (hr : Row w A news) (h1 : ∀ u ∈ news, u.oneCell' = true)
    (hsm : n + m ≤ 549755813888) (hg : Grew u w)
    (h : ∀ A' c' w', w'.ownsRow u.heap.size e size (.slice A' (n + m) c') (n + m) (xs ++ news) → Row w' A' (xs ++ news) → Grew u w' → w.grownBy w' v.ownBlock → ((Value.slice A' (n + m) c').ownBlock = v.ownBlock ∨ (Value.slice A' (n + m) c').ownBlock = some w.heap.size) → wpList P ops Q rest (a.put o.dst (.slice A' (n + m) c')) w') : wpList P ops Q (o :: rest) a w := by
  obtain ⟨i, hi0, hz, hs1, hb⟩ := info_parts hi
  have hbb : (n + m) * bytes ≤ 549755813888 * 256 := Nat.mul_le_mul hsm hb8
  refine wpList_append_row w hgd s x t ho u.heap.size e i z size bytes ht hi0 hz hs1 hb hzs hsz v n xs hs hown A m c news hx hl hr h1 (by unfold maxLen; omega) (by omega) hg.size ?_
  intro A' c' w' ho' hr' hgb hor
  exact h A' c' w' ho' hr' (hg.grown hgb (own_base hown)) hgb hor

theorem own_le {w : World} {base base' size n : Nat} {e : TypeId} {v : Value} {xs : List Value} (h : w.ownsRow base e size v n xs) (hb : base' ≤ base) : w.ownsRow base' e size v n xs :=
  ⟨h.1, h.2.elim Or.inl (fun ⟨g, cap, cur, hv, hg, r⟩ => Or.inr ⟨g, cap, cur, hv, Nat.le_trans hb hg, r⟩)⟩
theorem row_cells {w : World} {b o : Nat} {xs : List Value} (h : Row w (some ⟨b, o, none⟩) xs) : ∀ j u, xs[j]? = some u → w.cell? ⟨b, o + j, none⟩ = some u := by
  rcases h with h | ⟨b', o', hA, _, hc⟩
  · intro j u hu
    subst h
    simp at hu
  · injection hA with hA
    injection hA with e1 e2 _
    subst e1 e2
    exact hc
/-- A row of n numbers, by a function. -/
def numsL (n : Nat) (f : Nat → Nat) : List Value := (List.range n).map fun i => Value.int .i64 (f i)
theorem numsL_len (n : Nat) (f : Nat → Nat) : (numsL n f).length = n := by simp [numsL]
theorem numsL_at (n : Nat) (f : Nat → Nat) (i : Nat) (h : i < n) : (numsL n f)[i]? = some (.int .i64 (f i)) := by
  unfold numsL
  simp [h]
theorem numsL_one (n : Nat) (f : Nat → Nat) : ∀ u ∈ numsL n f, u.oneCell' = true := by
  intro u hu
  obtain ⟨z, _, rfl⟩ := List.mem_map.1 hu
  rfl
theorem numsL_snoc (n : Nat) (f : Nat → Nat) : numsL n f ++ [.int .i64 (f n)] = numsL (n + 1) f := by
  simp [numsL, List.range_succ]
theorem numsL_set (n : Nat) (f : Nat → Nat) (a v : Nat) : (numsL n f).set a (.int .i64 v) = numsL n (fun i => if i = a then v else f i) := by
  apply List.ext_getElem?
  intro i
  rw [List.getElem?_set]
  unfold numsL
  by_cases h : i < n
  · by_cases e : a = i
    · subst e; simp [h]
    · rw [if_neg e]; simp [h]; rw [if_neg (fun x => e x.symm)]
  · by_cases e : a = i
    · subst e; simp [h]
    · rw [if_neg e]; simp [h]
theorem numsL_congr (n : Nat) (f g : Nat → Nat) (h : ∀ i, i < n → f i = g i) : numsL n f = numsL n g := by
  unfold numsL
  apply List.map_congr_left
  intro i hi
  rw [h i (by simpa using hi)]
theorem Row.nums {w : World} {A : Option Addr} {n : Nat} {f : Nat → Nat} (h : Row w A (numsL n f)) {i : Nat} (hi : i < n) : ∃ b o, A = some ⟨b, o, none⟩ ∧ b < w.heap.size ∧ w.cell? ⟨b, o + i, none⟩ = some (.int .i64 (f i)) := by
  rcases h with h | ⟨b, o, hA, hb, hc⟩
  · have := congrArg List.length h
    rw [numsL_len] at this
    simp at this
    omega
  · exact ⟨b, o, hA, hb, hc i _ (numsL_at n f i hi)⟩
end Go.Proofs.Ytoaciliojdaoaaa
