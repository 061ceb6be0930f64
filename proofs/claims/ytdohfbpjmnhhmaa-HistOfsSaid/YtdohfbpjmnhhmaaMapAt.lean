/- Maps of one's own, by their entries in the order in which they were put. Condition: keys of a type that has a key's law. -/
import Derived.Test.YtdohfbpjmnhhmaaApp2
import Derived.Maps.Own
import Derived.DeepKeys4
namespace Go.Proofs.Ytdohfbpjmnhhmaa
open Go.RowKit Go.WideElems Go.MapKept
open Go.ChangeMaps (setBlock heap_setBlock_same heap_setBlock_other)
open Go.WideMaps (KeyLaw)

def MapAt (w : World) (b : Nat) (l : List (Value × Value)) : Prop := ∃ es clock, w.heap[b]? = some (.map es clock) ∧ es.toList.map (fun e => (e.key, e.val)) = l
theorem MapAt.lt {w : World} {b : Nat} {l : List (Value × Value)} (h : MapAt w b l) : b < w.heap.size := by
  obtain ⟨es, clock, hb, _⟩ := h
  exact (Array.getElem?_eq_some_iff.1 hb).1
theorem map_new (w : World) (b : Nat) (hb : b = w.heap.size) : MapAt (w.alloc (.map #[] 0)) b [] := by
  subst hb
  exact ⟨#[], 0, (MapKept.heap_alloc w _).1, rfl⟩
theorem MapAt.of {w w' : World} {b : Nat} {l : List (Value × Value)} (h : MapAt w b l) (e : w'.heap[b]? = w.heap[b]?) : MapAt w' b l := by
  obtain ⟨es, clock, hb, hl⟩ := h
  exact ⟨es, clock, e.trans hb, hl⟩
theorem MapAt.grew {w w' : World} {b : Nat} {l : List (Value × Value)} (h : MapAt w b l) (g : Grew w w') : MapAt w' b l := by
  obtain ⟨x, rfl⟩ := g
  exact h.of (more_block w x b h.lt)
theorem MapAt.kept {w w' : World} {b : Nat} {l : List (Value × Value)} {row : Option Nat} (h : MapAt w b l) (g : w.grownBy w' row) (hr : some b ≠ row) : MapAt w' b l := h.of (g.block b h.lt hr)
theorem MapAt.turns {w w' : World} {b g : Nat} {l : List (Value × Value)} (h : MapAt w b l) (k : Turns w w' g) (hg : b ≠ g) : MapAt w' b l := h.of (k.block b h.lt hg)
section
variable {P : Program} {k e t : TypeId} {w : World} {b : Nat} {l : List (Value × Value)}
/-- 'v, ok := m[k]': the key's own entry, or the zero value. -/
theorem map_look (K : KeyLaw P k) (ht : P.underlying t = some (.map k e)) (h : MapAt w b l) (hk : ∀ p ∈ l, ∃ kl, keyOf P k p.1 = some kl) {key z : Value} {kl : Lit} (hkey : keyOf P k key = some kl) (hz : (zeroValue e).run P w = .ok z w) :
    ((∀ p ∈ l, p.1 ≠ key) ∧ (Instr.lookup t (.map (some b)) key true).run P w = .ok (.tuple #[z, .bool false]) w) ∨ ∃ v, (key, v) ∈ l ∧ (Instr.lookup t (.map (some b)) key true).run P w = .ok (.tuple #[v, .bool true]) w := by
  obtain ⟨es, clock, hb, rfl⟩ := h
  have hall : ∀ x ∈ es.toList, ∃ kl, keyOf P k x.key = some kl := fun x hx => hk (x.key, x.val) (List.mem_map.2 ⟨x, hx, rfl⟩)
  rcases K.find w hkey es.toList hall with ⟨h1, h2⟩ | ⟨j, e0, h1, h2, h3⟩
  · refine Or.inl ⟨fun p hp => ?_, by simp [Instr.lookup, run_underlying ht, MapKept.run_getObj_map hb, K.check w _ hkey, h1, hz, Result.andThen]⟩
    obtain ⟨x, hx, rfl⟩ := List.mem_map.1 hp
    exact h2 x hx
  · refine Or.inr ⟨e0.val, List.mem_map.2 ⟨e0, List.mem_of_getElem? h2, by rw [h3]⟩, by simp [Instr.lookup, run_underlying ht, MapKept.run_getObj_map hb, K.check w _ hkey, h1, Result.andThen]⟩
/-- 'len(m)'. -/
theorem map_len (ht : P.underlying t = some (.map k e)) (h : MapAt w b l) (ty : TypeId) : (Builtin.len_ #[t] ty #[.map (some b)]).run P w = .ok (.int .i64 l.length) w := by
  obtain ⟨es, clock, hb, rfl⟩ := h
  simp [Builtin.len_, run_underlying ht, MapKept.run_getObj_map hb, goInt, Result.andThen]
/-- 'm[k] = v' at a key that is not there. -/
theorem map_put (K : KeyLaw P k) (ht : P.underlying t = some (.map k e)) (h : MapAt w b l) (hk : ∀ p ∈ l, ∃ kl, keyOf P k p.1 = some kl) {key val : Value} {kl : Lit} (hkey : keyOf P k key = some kl) (hno : ∀ p ∈ l, p.1 ≠ key) :
    ∃ w', (Instr.mapUpdate t (.map (some b)) key val).run P w = .ok () w' ∧ MapAt w' b (l ++ [(key, val)]) ∧ w.grownBy w' (some b) := by
  obtain ⟨es, clock, hb, rfl⟩ := h
  have hall : ∀ x ∈ es.toList, ∃ kl, keyOf P k x.key = some kl := fun x hx => hk (x.key, x.val) (List.mem_map.2 ⟨x, hx, rfl⟩)
  rcases K.find w hkey es.toList hall with ⟨h1, h2⟩ | ⟨j, e0, h1, h2, h3⟩
  · refine ⟨setBlock w b (.map (es.push ⟨key, val, clock⟩) (clock + 1)), by simp [Instr.mapUpdate, run_underlying ht, MapKept.run_getObj_map hb, K.check w false hkey, h1, MapKept.run_setObj_map _ hb, Result.andThen, setBlock], ⟨_, _, heap_setBlock_same hb _, by simp⟩, ⟨rfl, rfl, rfl, by simp [setBlock], fun i _ hi => heap_setBlock_other hb _ (fun e => hi (by rw [e]))⟩⟩
  · exact absurd h3 (hno (e0.key, e0.val) (List.mem_map.2 ⟨e0, List.mem_of_getElem? h2, rfl⟩))
end
theorem wpList_mput {P : Program} {w : World} {ops : Array Oper} {rest : List Oper} {o : Oper} {a : Act} {Q : Exit → Act → World → Prop} (hg : o.guard = none) (m x v : Operand) (t k e : TypeId) (hop : o.op = Op.mapUpdate t m x v)
    (K : KeyLaw P k) (ht : P.underlying t = some (.map k e)) (b : Nat) (l : List (Value × Value)) (hm : a.eval m = .map (some b)) (h : MapAt w b l) (hk : ∀ p ∈ l, ∃ kl, keyOf P k p.1 = some kl) (key val : Value) (kl : Lit) (hx : a.eval x = key) (hv : a.eval v = val)
    (hkey : keyOf P k key = some kl) (hno : ∀ p ∈ l, p.1 ≠ key)
    (hK : ∀ w', MapAt w' b (l ++ [(key, val)]) → w.grownBy w' (some b) → wpList P ops Q rest (a.put o.dst undef) w') : wpList P ops Q (o :: rest) a w := by
  refine wpList_plain hg fun K' hK' => ?_
  obtain ⟨w', hrun, r1, r2⟩ := map_put K ht h hk (val := val) hkey hno
  unfold Oper.wp
  simp [execOp, hop, hm, hx, hv, hrun, Result.andThen]
  exact hK' _ _ (hK w' r1 r2)
end Go.Proofs.Ytdohfbpjmnhhmaa
