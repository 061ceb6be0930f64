/- Layer 27: a map that counts values: which were met, in the order in which they came. Condition: values whose texts are not longer than memory. -/
import Derived.Test.YtdohfbpjmnhhmaaMapAt
import Derived.Test.YtdohfbpjmnhhmaaHstMath
import Derived.WideKeyEntry
namespace Go.Proofs.Ytdohfbpjmnhhmaa
open Go.RowKit Go.WideElems Go.MapKept
open Go.ChangeMaps (setBlock heap_setBlock_same heap_setBlock_other)
open Go.WideMaps (KeyLaw)

def keyV (v : Vl) : Value := .agg #[.int .i64 v.k, .int .i64 v.i, .string v.s]
theorem keyV_inj {v v' : Vl} (h : keyV v = keyV v') : v = v' := by
  unfold keyV at h
  injection h with h
  injection h with h
  injection h with h2 h
  injection h with h3 h
  injection h with h4 _
  injection h2 with _ h2
  injection h3 with _ h3
  injection h4 with h4
  obtain ⟨k, i, s⟩ := v
  obtain ⟨k', i', s'⟩ := v'
  simp only at h2 h3 h4
  subst h2 h3 h4
  rfl
theorem val_law : KeyLaw Try.prog 64 := deep_law (m := 4) (by decide) (by kernel_rfl) (by kernel_rfl) (by kernel_rfl)
theorem cells_i : Try.prog.cellsOf 3 = 1 := by kernel_rfl
theorem cells_s : Try.prog.cellsOf 9 = 1 := by kernel_rfl
theorem cells_v : Try.prog.cellsOf 64 = 3 := by kernel_rfl
theorem kl_int (d : Nat) (a : Int) (h : (Lit.int .i64 a).wf = true) : Try.prog.keyLits (d + 1) 3 [.int .i64 a] = some [.int .i64 a] := by
  rw [Program.keyLits.eq_def]
  simp only [Try.underlying3, h, and_self, if_true]
theorem kl_str (d : Nat) (s : ByteArray) (h : s.size ≤ maxLen) : Try.prog.keyLits (d + 1) 9 [.string s] = some [.string s.data.toList] := by
  rw [Program.keyLits.eq_def]
  simp only [Try.underlying9, h, if_true]
theorem kl_val (d : Nat) (k i : Int) (s : ByteArray) (hk : (Lit.int .i64 k).wf = true) (hi : (Lit.int .i64 i).wf = true) (hs : s.size ≤ maxLen) : Try.prog.keyLits (d + 2) 64 [.int .i64 k, .int .i64 i, .string s] = some [.int .i64 k, .int .i64 i, .string s.data.toList] := by
  rw [Program.keyLits.eq_def]
  have h1 := kl_int d k hk
  have h2 := kl_int d i hi
  have h3 := kl_str d s hs
  simp [Try.underlying64, cells_v, cells_i, cells_s, h1, h2, h3]
theorem keyV_of (v : Vl) (hv : VlOk v) : ∃ kl, keyOf Try.prog 64 (keyV v) = some kl := by
  obtain ⟨d, hd⟩ : ∃ d, Try.prog.types.size + 1 = d + 2 := ⟨Try.prog.types.size - 1, by have : 2 ≤ Try.prog.types.size := of_decide_eq_true (by kernel_rfl); omega⟩
  have hmx : v.s.size ≤ maxLen := by have := hv.2.2; unfold maxLen; omega
  have hl := kl_val d v.k v.i v.s hv.1 hv.2.1 hmx
  have hf : (Try.prog.keyType 64 && (keyV v).formed Try.prog 64) = true := by
    rw [Bool.and_eq_true]
    refine ⟨by kernel_rfl, ?_⟩
    unfold keyV Value.formed
    rw [Try.underlying64]
    show (_ == Try.prog.cellsOf 64) = true
    rw [cells_v]
    rfl
  refine ⟨.string (keyBytes [.int .i64 v.k, .int .i64 v.i, .string v.s.data.toList]), ?_⟩
  unfold keyOf
  rw [Try.underlying64]
  simp only [hf, if_true, hd]
  unfold keyV
  show Option.map _ (Try.prog.keyLits (d + 2) 64 [.int .i64 v.k, .int .i64 v.i, .string v.s]) = _
  rw [hl]
  rfl
/-- Block b counts values: those of l have been met; no count is above c. -/
structure MapC (w : World) (b : Nat) (c : Nat) (l : List Vl) : Prop where
  ex : ∃ (es : Array MapEntry) (clock : Nat), w.heap[b]? = some (.map es clock) ∧ es.toList.map (fun e => e.key) = l.map keyV ∧ (∀ x ∈ es.toList, x.born < clock) ∧ (es.toList.map fun x => x.born).Nodup ∧ ∀ x ∈ es.toList, ∃ n : Nat, x.val = .int .i64 n ∧ n ≤ c
  ok : ∀ v ∈ l, VlOk v
theorem MapC.of {w w' : World} {b c : Nat} {l : List Vl} (h : MapC w b c l) (e : w'.heap[b]? = w.heap[b]?) : MapC w' b c l := by
  obtain ⟨⟨es, clock, hb, r⟩, ho⟩ := h
  exact ⟨⟨es, clock, e.trans hb, r⟩, ho⟩
theorem MapC.lt {w : World} {b c : Nat} {l : List Vl} (h : MapC w b c l) : b < w.heap.size := by
  obtain ⟨⟨es, clock, hb, _⟩, _⟩ := h
  exact (Array.getElem?_eq_some_iff.1 hb).1
theorem MapC.grew {w w' : World} {b c : Nat} {l : List Vl} (h : MapC w b c l) (g : Grew w w') : MapC w' b c l := by
  obtain ⟨x, rfl⟩ := g
  exact h.of (more_block w x b h.lt)
theorem MapC.kept {w w' : World} {b c : Nat} {l : List Vl} {row : Option Nat} (h : MapC w b c l) (g : w.grownBy w' row) (hr : some b ≠ row) : MapC w' b c l := h.of (g.block b h.lt hr)
theorem MapC.turns {w w' : World} {b c g : Nat} {l : List Vl} (h : MapC w b c l) (k : Turns w w' g) (hg : b ≠ g) : MapC w' b c l := h.of (k.block b h.lt hg)
theorem MapC.up {w : World} {b c c' : Nat} {l : List Vl} (h : MapC w b c l) (hc : c ≤ c') : MapC w b c' l := by
  obtain ⟨⟨es, clock, hb, h1, h2, h3, h4⟩, ho⟩ := h
  exact ⟨⟨es, clock, hb, h1, h2, h3, fun x hx => by obtain ⟨n, h5, h6⟩ := h4 x hx; exact ⟨n, h5, by omega⟩⟩, ho⟩
theorem mapC_new (w : World) (b : Nat) (hb : b = w.heap.size) : MapC (w.alloc (.map #[] 0)) b 0 [] := by
  subst hb
  exact ⟨⟨#[], 0, (MapKept.heap_alloc w _).1, rfl, by simp, by simp, by simp⟩, by simp⟩
/-- 'len(m)'. -/
theorem mapC_len {w : World} {b c : Nat} {l : List Vl} (h : MapC w b c l) (ty : TypeId) : (Builtin.len_ #[51] ty #[.map (some b)]).run Try.prog w = .ok (.int .i64 l.length) w := by
  obtain ⟨⟨es, clock, hb, h1, _⟩, _⟩ := h
  have e : es.size = l.length := by
    have := congrArg List.length h1
    simpa using this
  simp [Builtin.len_, run_underlying Try.underlying51, MapKept.run_getObj_map hb, goInt, Result.andThen, e]
/-- 'clear(m)'. -/
theorem mapC_clear {w : World} {b c : Nat} {l : List Vl} (h : MapC w b c l) : ∃ w', (∀ ty, (Builtin.clear_ #[51] ty #[.map (some b)]).run Try.prog w = .ok (.tuple #[]) w') ∧ MapC w' b 0 [] ∧ w.grownBy w' (some b) := by
  obtain ⟨⟨es, clock, hb, _⟩, _⟩ := h
  refine ⟨setBlock w b (.map #[] clock), fun ty => ?_, ⟨⟨#[], clock, heap_setBlock_same hb _, rfl, by simp, by simp, by simp⟩, by simp⟩, ⟨rfl, rfl, rfl, by simp [setBlock], fun i _ hi => heap_setBlock_other hb _ (fun e => hi (by rw [e]))⟩⟩
  simp [Builtin.clear_, run_underlying Try.underlying51, MapKept.run_getObj_map hb, MapKept.run_setObj_map _ hb, Result.andThen, setBlock]
/-- 'm[v]++': the entry first, then the store. -/
theorem zero_int (w : World) : (zeroValue 3).run Try.prog w = .ok (.int .i64 0) w := by kernel_rfl
theorem store_run {w : World} {b clock born i : Nat} {es : Array MapEntry} {t : TypeId} {val : Value} (hb : w.heap[b]? = some (.map es clock)) (hidx : es.findIdx? (fun e => ((e.born : Nat) : Int) == ((born : Nat) : Int)) = some i) :
    (Instr.entryStore t (.map (some b)) (.int .i64 born) val).run Try.prog w = .ok () (setBlock w b (.map (es.modify i fun e => { e with val := val }) clock)) := by
  simp [Instr.entryStore, MapKept.run_getObj_map hb, asInt, asIntOf, hidx, MapKept.run_setObj_map _ hb, Result.andThen, setBlock]
theorem setBlock_self {w : World} {b : Nat} {o : Obj} (hb : w.heap[b]? = some o) : setBlock w b o = w := by
  have e : w.heap.setIfInBounds b o = w.heap := by
    apply Array.ext'
    rw [Array.toList_setIfInBounds]
    exact set_self _ _ _ (by simpa using hb)
  unfold setBlock
  rw [e]
theorem look_hit {w : World} {b clock j : Nat} {es : Array MapEntry} {key val : Value} {kl : Lit} (hb : w.heap[b]? = some (.map es clock)) (hkey : keyOf Try.prog 64 key = some kl) (hf : (Instr.findKey 64 key es.toList).run Try.prog w = .ok (some (j, val)) w) :
    (Instr.lookup 51 (.map (some b)) key false).run Try.prog w = .ok val w := by
  simp [Instr.lookup, run_underlying Try.underlying51, MapKept.run_getObj_map hb, val_law.check w _ hkey, hf, Result.andThen]
/-- 'm[v]++': the entry and the look-up in either order, then the store. -/
theorem mapC_inc {w : World} {b c : Nat} {l : List Vl} (h : MapC w b c l) {v : Vl} (hv : VlOk v) :
    ∃ (n st : Nat) (v0 : Value) (w1 w2 : World), n ≤ c ∧ (Instr.lookup 51 (.map (some b)) (keyV v) false).run Try.prog w = .ok (.int .i64 n) w ∧ (Instr.mapEntry 51 (.map (some b)) (keyV v)).run Try.prog w = .ok (.tuple #[v0, .int .i64 st]) w1 ∧
      (Instr.lookup 51 (.map (some b)) (keyV v) false).run Try.prog w1 = .ok (.int .i64 n) w1 ∧ w.grownBy w1 (some b) ∧
      (Instr.entryStore 51 (.map (some b)) (.int .i64 st) (.int .i64 ((n : Int) + 1))).run Try.prog w1 = .ok () w2 ∧ w1.grownBy w2 (some b) ∧ MapC w2 b (c + 1) (if v ∈ l then l else l ++ [v]) := by
  obtain ⟨⟨es, clock, hb, h1, h2, h3, h4⟩, ho⟩ := h
  obtain ⟨kl, hkey⟩ := keyV_of v hv
  have hall : ∀ x ∈ es.toList, ∃ kl, keyOf Try.prog 64 x.key = some kl := fun x hx => by
    have : x.key ∈ l.map keyV := by rw [← h1]; exact List.mem_map.2 ⟨x, hx, rfl⟩
    obtain ⟨u, hu, e⟩ := List.mem_map.1 this
    rw [← e]
    exact keyV_of u (ho u hu)
  have ht := Try.underlying51
  rcases val_law.find w hkey es.toList hall with ⟨hf, hno⟩ | ⟨j, e0, hf, he0, hek⟩
  · have hnl : v ∉ l := fun hm => by
      have : keyV v ∈ es.toList.map (fun e => e.key) := by rw [h1]; exact List.mem_map.2 ⟨v, hm, rfl⟩
      obtain ⟨x, hx, e⟩ := List.mem_map.1 this
      exact hno x hx e
    have hidx : (es.push ⟨keyV v, .int .i64 0, clock⟩).findIdx? (fun e => ((e.born : Nat) : Int) == ((clock : Nat) : Int)) = some es.size := by
      rw [findIdx_arr]
      exact findIdx_born (l := (es.push ⟨keyV v, .int .i64 0, clock⟩).toList) (j := es.size) (e0 := ⟨keyV v, .int .i64 0, clock⟩) (by
        simp only [Array.toList_push, List.map_append, List.map_cons, List.map_nil]
        refine List.nodup_append.2 ⟨h3, by simp, fun a ha c hc e1 => ?_⟩
        simp only [List.mem_singleton] at hc
        obtain ⟨x, hx, rfl⟩ := List.mem_map.1 ha
        have := h2 x hx
        omega) (by simp)
    have hmod : (es.push ⟨keyV v, .int .i64 0, clock⟩).modify es.size (fun e => { e with val := .int .i64 (((0 : Nat) : Int) + 1) }) = es.push ⟨keyV v, .int .i64 (((0 : Nat) : Int) + 1), clock⟩ := by
      apply Array.ext'
      rw [Array.toList_modify, Array.toList_push, Array.toList_push, ← Array.length_toList, modify_last]
    have hw2 : (setBlock w b (.map (es.push ⟨keyV v, .int .i64 0, clock⟩) (clock + 1))).heap[b]? = some (.map (es.push ⟨keyV v, .int .i64 0, clock⟩) (clock + 1)) := heap_setBlock_same hb _
    have hall2 : ∀ x ∈ (es.push ⟨keyV v, .int .i64 0, clock⟩).toList, ∃ kl, keyOf Try.prog 64 x.key = some kl := fun x hx => by
      rw [Array.toList_push, List.mem_append, List.mem_singleton] at hx
      rcases hx with hx | hx
      · exact hall x hx
      · subst hx; exact ⟨kl, hkey⟩
    have hlk2 : (Instr.lookup 51 (.map (some b)) (keyV v) false).run Try.prog (setBlock w b (.map (es.push ⟨keyV v, .int .i64 0, clock⟩) (clock + 1))) = .ok (.int .i64 ((0 : Nat) : Int)) (setBlock w b (.map (es.push ⟨keyV v, .int .i64 0, clock⟩) (clock + 1))) := by
      generalize setBlock w b (.map (es.push ⟨keyV v, .int .i64 0, clock⟩) (clock + 1)) = wz at *
      rcases val_law.find wz hkey _ hall2 with ⟨hf2, hno2⟩ | ⟨j, e0, hf2, he0, hek⟩
      · exact absurd rfl (hno2 ⟨keyV v, .int .i64 0, clock⟩ (by simp))
      · have hm := List.mem_of_getElem? he0
        rw [Array.toList_push, List.mem_append, List.mem_singleton] at hm
        rcases hm with hm | hm
        · exact absurd hek (hno e0 hm)
        · subst hm
          exact look_hit hw2 hkey hf2
    refine ⟨0, clock, .int .i64 0, setBlock w b (.map (es.push ⟨keyV v, .int .i64 0, clock⟩) (clock + 1)),
      setBlock (setBlock w b (.map (es.push ⟨keyV v, .int .i64 0, clock⟩) (clock + 1))) b (.map (es.push ⟨keyV v, .int .i64 (((0 : Nat) : Int) + 1), clock⟩) (clock + 1)), Nat.zero_le _, ?_, ?_, hlk2, ⟨rfl, rfl, rfl, by simp [setBlock], fun i _ hi => heap_setBlock_other hb _ (fun e => hi (by rw [e]))⟩, ?_, ⟨rfl, rfl, rfl, by simp [setBlock], fun i _ hi => heap_setBlock_other hw2 _ (fun e => hi (by rw [e]))⟩, ?_⟩
    · simp [Instr.lookup, run_underlying ht, MapKept.run_getObj_map hb, val_law.check w _ hkey, hf, Result.andThen]
    · simp [Instr.mapEntry, run_underlying ht, MapKept.run_getObj_map hb, val_law.check w false hkey, hf, MapKept.run_setObj_map _ hb, Result.andThen, setBlock, goInt]
    · rw [store_run hw2 hidx, hmod]
    · rw [if_neg hnl]
      refine ⟨⟨_, _, heap_setBlock_same hw2 _, ?_, ?_, ?_, ?_⟩, ?_⟩
      · simp [h1]
      · intro x hx
        rw [Array.toList_push, List.mem_append] at hx
        rcases hx with hx | hx
        · have := h2 x hx; omega
        · rw [List.mem_singleton] at hx; subst hx; exact Nat.lt_succ_self _
      · simp only [Array.toList_push, List.map_append, List.map_cons, List.map_nil]
        refine List.nodup_append.2 ⟨h3, by simp, fun a ha c hc e1 => ?_⟩
        simp only [List.mem_singleton] at hc
        obtain ⟨x, hx, rfl⟩ := List.mem_map.1 ha
        have := h2 x hx
        omega
      · intro x hx
        rw [Array.toList_push, List.mem_append] at hx
        rcases hx with hx | hx
        · obtain ⟨n, h5, h6⟩ := h4 x hx; exact ⟨n, h5, by omega⟩
        · rw [List.mem_singleton] at hx; subst hx; exact ⟨0 + 1, rfl, by omega⟩
      · intro u hu
        rcases List.mem_append.1 hu with hu | hu
        · exact ho u hu
        · rw [List.mem_singleton] at hu; subst hu; exact hv
  · have hj : es[j]? = some e0 := by simpa using he0
    have hmem := List.mem_of_getElem? he0
    obtain ⟨n, hn, hnc⟩ := h4 e0 hmem
    have hil : v ∈ l := by
      have : e0.key ∈ l.map keyV := by rw [← h1]; exact List.mem_map.2 ⟨e0, hmem, rfl⟩
      obtain ⟨u, hu, e⟩ := List.mem_map.1 this
      rw [hek] at e
      rw [← keyV_inj e]
      exact hu
    have hsame : es.modify j (fun e => { e with key := keyV v }) = es := by
      apply Array.ext'
      rw [Array.toList_modify, ChangeMaps.modify_eq_set _ _ _ _ he0]
      have : ({ e0 with key := keyV v } : MapEntry) = e0 := by rw [← hek]
      rw [this]
      exact set_self _ _ _ he0
    have hidx : es.findIdx? (fun e => ((e.born : Nat) : Int) == ((e0.born : Nat) : Int)) = some j := by
      rw [findIdx_arr]
      exact findIdx_born h3 he0
    have hset : (es.modify j (fun e => { e with val := .int .i64 ((n : Int) + 1) })).toList = es.toList.set j { e0 with val := .int .i64 ((n : Int) + 1) } := by
      rw [Array.toList_modify, ChangeMaps.modify_eq_set _ _ _ _ he0]
    have hjl : j < es.toList.length := (List.getElem?_eq_some_iff.1 he0).1
    have hlk : (Instr.lookup 51 (.map (some b)) (keyV v) false).run Try.prog w = .ok (.int .i64 n) w := by
      simp [Instr.lookup, run_underlying ht, MapKept.run_getObj_map hb, val_law.check w _ hkey, hf, hn, Result.andThen]
    have hsb := setBlock_self hb
    refine ⟨n, e0.born, e0.val, w, setBlock w b (.map (es.modify j (fun e => { e with val := .int .i64 ((n : Int) + 1) })) clock), hnc, hlk, ?_, hlk, ⟨rfl, rfl, rfl, Nat.le_refl _, fun _ _ _ => rfl⟩, ?_, ⟨rfl, rfl, rfl, by simp [setBlock], fun i _ hi => heap_setBlock_other hb _ (fun e => hi (by rw [e]))⟩, ?_⟩
    · unfold setBlock at hsb
      simp [Instr.mapEntry, run_underlying ht, MapKept.run_getObj_map hb, val_law.check w false hkey, hf, hj, hek, val_law.stays w hkey, hsame, MapKept.run_setObj_map _ hb, Result.andThen, goInt]
      exact hsb
    · rw [store_run hb hidx]
    · rw [if_pos hil]
      refine ⟨⟨_, _, heap_setBlock_same hb _, ?_, ?_, ?_, ?_⟩, ho⟩
      · rw [hset, List.map_set, ← h1]
        refine set_self _ _ _ ?_
        rw [List.getElem?_map, he0]
        rfl
      · intro x hx
        rw [hset] at hx
        rcases List.mem_or_eq_of_mem_set hx with hx | hx
        · exact h2 x hx
        · subst hx; exact h2 e0 hmem
      · rw [hset, List.map_set]
        have : (es.toList.map fun x => x.born).set j e0.born = es.toList.map fun x => x.born := set_self _ _ _ (by rw [List.getElem?_map, he0]; rfl)
        show ((es.toList.map fun x => x.born).set j e0.born).Nodup
        rw [this]
        exact h3
      · intro x hx
        rw [hset] at hx
        rcases List.mem_or_eq_of_mem_set hx with hx | hx
        · obtain ⟨m, h5, h6⟩ := h4 x hx; exact ⟨m, h5, by omega⟩
        · subst hx; exact ⟨n + 1, rfl, by omega⟩
end Go.Proofs.Ytdohfbpjmnhhmaa
