/- append onto a row of the call's own, beside a block that turns; rows of numbers. Condition: not more elements than 2^39. -/
import Derived.Test.YtoaciliojdaoaaaApp
import Derived.Test.YtoaciliojdaoaaaRows
namespace Go.Proofs.Ytoaciliojdaoaaa
open Go.RowKit

theorem wpList_appB {P : Program} {w : World} {ops : Array Oper} {rest : List Oper} {o : Oper} {a : Act} {Q : Exit → Act → World → Prop} (hgd : o.guard = none) (s x : Operand) (t e : TypeId) (size : Nat)
    (ho : o.op = .call { callee := .builtin .append, args := #[s, x], argTypes := #[t, t] })
    (base : Nat) (z : Value) (bytes : Nat) (ht : P.underlying t = some (.slice e)) (hi : (P.info? e).map (fun i => (i.zero, i.size, i.bytes)) = some (some z, size, bytes)) (hzs : z.cells.size = size) (hsz : 0 < size) (hb8 : bytes ≤ 256)
    (v : Value) (n : Nat) (xs : List Value) (hs : a.eval s = v) (hown : w.ownsRow base e size v n xs)
    (A : Option Addr) (m c : Nat) (news : List Value) (hx : a.eval x = .slice A m c) (hl : news.length = m * size) (hr : Row w A news) (h1 : ∀ u ∈ news, u.oneCell' = true)
    (hsm : n + m ≤ 549755813888) (hg : base ≤ w.heap.size)
    (h : ∀ A' c' w', w'.ownsRow base e size (.slice A' (n + m) c') (n + m) (xs ++ news) → w.grownBy w' v.ownBlock → wpList P ops Q rest (a.put o.dst (.slice A' (n + m) c')) w') : wpList P ops Q (o :: rest) a w := by
  obtain ⟨i, hi0, hz, hs1, hb⟩ := info_parts hi
  have hbb : (n + m) * bytes ≤ 549755813888 * 256 := Nat.mul_le_mul hsm hb8
  refine wpList_append_row w hgd s x t ho base e i z size bytes ht hi0 hz hs1 hb hzs hsz v n xs hs hown A m c news hx hl hr h1 (by unfold maxLen; omega) (by omega) hg ?_
  intro A' c' w' ho' hr' hgb hor
  exact h A' c' w' ho' hgb
theorem wp_appB {P : Program} {w : World} {o : Oper} {a : Act} {K : Act → World → Prop} {Q : Exit → Act → World → Prop} (s x : Operand) (t e : TypeId) (size : Nat)
    (ho : o.op = .call { callee := .builtin .append, args := #[s, x], argTypes := #[t, t] })
    (base : Nat) (z : Value) (bytes : Nat) (ht : P.underlying t = some (.slice e)) (hi : (P.info? e).map (fun i => (i.zero, i.size, i.bytes)) = some (some z, size, bytes)) (hzs : z.cells.size = size) (hsz : 0 < size) (hb8 : bytes ≤ 256)
    (v : Value) (n : Nat) (xs : List Value) (hs : a.eval s = v) (hown : w.ownsRow base e size v n xs)
    (A : Option Addr) (m c : Nat) (news : List Value) (hx : a.eval x = .slice A m c) (hl : news.length = m * size) (hr : Row w A news) (h1 : ∀ u ∈ news, u.oneCell' = true)
    (hsm : n + m ≤ 549755813888) (hg : base ≤ w.heap.size)
    (h : ∀ A' c' w', w'.ownsRow base e size (.slice A' (n + m) c') (n + m) (xs ++ news) → w.grownBy w' v.ownBlock → K (a.put o.dst (.slice A' (n + m) c')) w') : o.wp P a w K Q := by
  obtain ⟨i, hi0, hz, hs1, hb⟩ := info_parts hi
  have hbb : (n + m) * bytes ≤ 549755813888 * 256 := Nat.mul_le_mul hsm hb8
  refine wp_append_row w s x t ho base e i z size bytes ht hi0 hz hs1 hb hzs hsz v n xs hs hown A m c news hx hl hr h1 (by unfold maxLen; omega) (by omega) hg ?_
  intro A' c' w' ho' hr' hgb hor
  exact h A' c' w' ho' hgb
theorem Turns.grown {w w' w'' : World} {g : Nat} {row : Option Nat} (h : Turns w w' g) (k : w'.grownBy w'' row) (hr : ∀ i, row = some i → w.heap.size ≤ i) : Turns w w'' g := by
  refine ⟨k.os.trans h.os, k.tape.trans h.tape, k.output.trans h.output, Nat.le_trans h.size k.size, fun i hi hn => ?_⟩
  rw [k.block i (Nat.lt_of_lt_of_le hi h.size) (fun e => by have := hr i e.symm; omega)]
  exact h.block i hi hn
theorem own_turns {w w' : World} {base : Nat} {e : TypeId} {size : Nat} {v : Value} {n : Nat} {xs : List Value} {g : Nat} (h : w.ownsRow base e size v n xs) (k : Turns w w' g) (hg : g < base) : w'.ownsRow base e size v n xs := by
  have hlt := own_lt h
  obtain ⟨hl, h⟩ := h
  refine ⟨hl, ?_⟩
  rcases h with h | ⟨q, cap, cur, rfl, hb, hh, hq⟩
  · exact Or.inl h
  · exact Or.inr ⟨q, cap, cur, rfl, hb, by rw [k.block q (hlt q rfl) (by omega)]; exact hh, hq⟩
theorem Blok.grown {w w' : World} {g : Nat} {t : TypeId} {cs : Array Value} {row : Option Nat} (h : Blok w g t cs) (k : w.grownBy w' row) (hr : row ≠ some g) : Blok w' g t cs := by
  have hl := h.lt
  unfold Blok at *
  rw [k.block g hl (fun e => hr e.symm)]
  exact h
/-- Numbers of one's own. -/
def iV (l : List Int) : List Value := l.map (Value.int .i64)
theorem iV_one (l : List Int) : ∀ u ∈ iV l, u.oneCell' = true := by
  intro u hu
  obtain ⟨z, _, rfl⟩ := List.mem_map.1 hu
  rfl
theorem iV_snoc (l : List Int) (n : Int) : iV l ++ [.int .i64 n] = iV (l ++ [n]) := by simp [iV]
theorem own_rowI {w : World} {base n c : Nat} {A : Option Addr} {l : List Int} (h : w.ownsRow base 3 1 (.slice A n c) n (iV l)) : Row w A (iV l) := by
  obtain ⟨A', c', h1, h2⟩ := own_row h
  injection h1 with h1 _ _
  subst h1
  exact h2
theorem infoI : (Try.prog.info? 3).map (fun i => (i.zero, i.size, i.bytes)) = some (some (.int .i64 0), 1, 8) := by kernel_rfl
end Go.Proofs.Ytoaciliojdaoaaa
