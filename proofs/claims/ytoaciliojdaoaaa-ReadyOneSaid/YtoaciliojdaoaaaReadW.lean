/- What comes in, read by its types, with what its size in bytes tells: texts, slices, structs, one in another. No condition. -/
import Derived.Test.YtoaciliojdaoaaaRead
import Derived.SizedLaws
namespace Go.Proofs.Ytoaciliojdaoaaa
open Go.RowKit Go.ChangeShapes Go.WideShapes Go.ChangeAt

section
variable {H : Type} {enc : TypeId × Value → H} {P : Program} {W : World} {t : TypeId}
def okW (P : Program) (t : TypeId) (d : DataW H) : Prop := (d.weights P t).all (· ≤ reachBytes) = true
theorem okW_all {e : TypeId} : ∀ {l : List (DataW H)}, (DataW.weightsAll P e l).all (· ≤ reachBytes) = true → ∀ {i : Nat} {d : DataW H}, l[i]? = some d → okW P e d
  | [], _, i, d, h => by simp at h
  | x :: l, h, i, d, hi => by
    simp only [DataW.weightsAll, List.all_append, Bool.and_eq_true] at h
    rcases i with _ | i
    · simp at hi
      subst hi
      exact h.1
    · simp at hi
      exact okW_all h.2 hi
theorem okW_each : ∀ {ts : List TypeId} {l : List (DataW H)}, (DataW.weightsEach P ts l).all (· ≤ reachBytes) = true → ∀ {i : Nat} {e : TypeId} {d : DataW H}, ts[i]? = some e → l[i]? = some d → okW P e d
  | [], l, _, i, e, d, h, _ => by simp at h
  | t :: ts, [], _, i, e, d, _, h => by simp at h
  | t :: ts, x :: l, h, i, e, d, ht, hi => by
    simp only [DataW.weightsEach, List.all_append, Bool.and_eq_true] at h
    rcases i with _ | i
    · simp at hi ht
      subst hi ht
      exact h.1
    · simp at hi ht
      exact okW_each h.2 ht hi
/-- What a reading of a type in memory tells of its cells, if no part takes more than the reach. -/
def RdW (enc : TypeId × Value → H) (P : Program) (W : World) (t : TypeId) (size : Nat) {α : Type} (R : α → List Value → Prop) : Prop :=
  P.cellsOf t = size ∧ ∀ (n : Nat) (cs : List Value) (y : DataW H × List MemPlace), cs.length = size → DataW.trod enc P W 0 (fun _ => true) true n t cs = some y → okW P t y.1 → ∃ x, R x cs
theorem rdw_of {α : Type} {R : α → List Value → Prop} {size : Nat} (h : Rd enc P W t size R) : RdW enc P W t size R := ⟨h.1, fun n cs y hl hy _ => h.2 n cs y hl hy⟩
theorem rdw_map {α : Type} {R R' : α → List Value → Prop} {size : Nat} (h : RdW enc P W t size R) (H' : ∀ x cs, R x cs → R' x cs) : RdW enc P W t size R' :=
  ⟨h.1, fun n cs y hl hy ho => (h.2 n cs y hl hy ho).imp fun x hx => H' x cs hx⟩
theorem rdw_turn {α β : Type} {R : α → List Value → Prop} {R' : β → List Value → Prop} {size : Nat} (h : RdW enc P W t size R) (H' : ∀ x cs, R x cs → ∃ z, R' z cs) : RdW enc P W t size R' :=
  ⟨h.1, fun n cs y hl hy ho => by
    obtain ⟨x, hx⟩ := h.2 n cs y hl hy ho
    exact H' x cs hx⟩
theorem rdw_str (ht : P.underlying t = some .string) (hc : P.cellsOf t = 1) : RdW enc P W t 1 (fun (x : ByteArray) cs => cs = [.string x] ∧ x.size ≤ reachBytes) :=
  ⟨hc, fun n cs y _ h ho => by
    obtain ⟨x, h1, h2, h3⟩ := DataW.trod_string ht h
    refine ⟨x, h1, ?_⟩
    rw [h2] at ho
    simp only [okW, DataW.weights, List.all_cons, List.all_nil, Bool.and_true, decide_eq_true_eq] at ho
    simpa using ho⟩
theorem open_gridW {α : Type} [Inhabited α] (R : α → List Value → Prop) {e : TypeId} {n : Nat} {cs : List Value} {y : DataW H × List MemPlace} (ht : P.underlying t = some (.slice e)) (hs : 0 < P.cellsOf e)
    (hone : ∀ (n : Nat) (cs : List Value) (y : DataW H × List MemPlace), cs.length = P.cellsOf e → DataW.trod enc P W 0 (fun _ => true) true n e cs = some y → okW P e y.1 → ∃ x, R x cs)
    (h : DataW.trod enc P W 0 (fun _ => true) true n t cs = some y) (ho : okW P t y.1) :
    ∃ (A : Option Addr) (c : Nat) (l : List α) (css : List (List Value)), cs = [.slice A l.length c] ∧ l.length ≤ c ∧ c ≤ maxLen ∧ c * P.bytesOf e ≤ reachBytes ∧ css.length = l.length ∧ (∀ (i : Nat) (x : α) (ds : List Value), l[i]? = some x → css[i]? = some ds → R x ds ∧ ds.length = P.cellsOf e) ∧ Grid W A (P.cellsOf e) css := by
  rcases Go.Deep.open_slice ht h with ⟨hcs, _⟩ | ⟨a, len, cap, m, k, D, Pl, hcs, _, hl, hm, hmm, hyy, hx⟩
  · exact ⟨none, 0, [], [], hcs, Nat.le_refl _, by unfold maxLen; simp, by simp, rfl, fun i x ds hi => by simp at hi, Or.inl rfl⟩
  · simp only [if_true] at hmm
    subst hmm
    rw [hyy] at ho
    simp only [okW, DataW.weights, ht, List.all_cons, List.all_append, Bool.and_eq_true, decide_eq_true_eq, List.length_map, List.length_range] at ho
    obtain ⟨ho1, ho2, _⟩ := ho
    obtain ⟨C, hC⟩ := Go.Deep.choose_lt (α := List Value) (p := fun i ds => W.cells? 0 (a.add (i * P.cellsOf e)) (P.cellsOf e) = some ds ∧ DataW.trod enc P W 0 (fun _ => true) true k e ds = some (D i, Pl i)) (fun i hi => by
      obtain ⟨ds, h1, h2⟩ := hx i hi
      exact ⟨ds, h1, h2⟩)
    have hlenC : ∀ i, i < m → (C i).length = P.cellsOf e := fun i hi => (World.cells?_some (hC i hi).1).2.1
    obtain ⟨X, hX⟩ := Go.Deep.choose_lt (n := len) (α := α) (p := fun i x => R x (C i)) (fun i hi => by
      have hi' : i < m := by omega
      exact hone _ _ _ (hlenC i hi') (hC i hi').2 (okW_all ho2 (i := i) (by simp [hi])))
    refine ⟨some a, m, (List.range len).map X, (List.range len).map C, by simpa using hcs, by simp; omega, hm, by rw [show len + (m - len) = m by omega] at ho1; exact ho1, by simp, fun i x ds hi hd => ?_, ?_⟩
    · have hlt : i < len := by
        rcases Nat.lt_or_ge i len with h | h
        · exact h
        · rw [List.getElem?_eq_none (by simpa using h)] at hi; cases hi
      simp [hlt] at hi hd
      subst hi hd
      exact ⟨hX i hlt, hlenC i (by omega)⟩
    · by_cases h0 : len = 0
      · subst h0
        exact Or.inl (by simp)
      · have hcell : ∀ i, i < len → ∀ j u, (C i)[j]? = some u → W.cell? (a.add (i * P.cellsOf e + j)) = some u := by
          intro i hi j u hu
          obtain ⟨_, h2, h3⟩ := World.cells?_some (hC i (by omega)).1
          have hj : j < P.cellsOf e := by
            rcases Nat.lt_or_ge j (P.cellsOf e) with h | h
            · exact h
            · rw [List.getElem?_eq_none (by omega)] at hu; cases hu
          have := h3 j hj
          rw [Go.Deep.add_add] at this
          rw [this, hu]
        obtain ⟨b, off, path⟩ := a
        have hu0 : ∃ u, (C 0)[0]? = some u := ⟨_, List.getElem?_eq_getElem (by rw [hlenC 0 (by omega)]; exact hs)⟩
        obtain ⟨u0, hu0⟩ := hu0
        have h1 := hcell 0 (by omega) 0 u0 hu0
        have hp : path = none := by simpa [Addr.add] using World.cell?_spot h1
        subst hp
        refine Or.inr ⟨b, off, rfl, ?_, fun i ds hi j u hu => ?_⟩
        · have := cell_lt h1
          simpa [Addr.add] using this
        · have hlt : i < len := by
            rcases Nat.lt_or_ge i len with h | h
            · exact h
            · rw [List.getElem?_eq_none (by simpa using h)] at hi; cases hi
          simp [hlt] at hi
          subst hi
          have := hcell i hlt j u hu
          rw [add_plain] at this
          exact this
theorem rdw_slice {α : Type} [Inhabited α] {R : α → List Value → Prop} {e : TypeId} {size bytes : Nat} (ht : P.underlying t = some (.slice e)) (hc : P.cellsOf t = 1) (hs : 0 < size) (hb : P.bytesOf e = bytes) (he : RdW enc P W e size R) :
    RdW enc P W t 1 (fun (l : List α) cs => ∃ A c css, cs = [.slice A l.length c] ∧ l.length ≤ c ∧ c ≤ maxLen ∧ c * bytes ≤ reachBytes ∧ ListR R size l css ∧ Row W A css.flatten) :=
  ⟨hc, fun n cs y _ h ho => by
    obtain ⟨hce, hre⟩ := he
    obtain ⟨A, c, l, css, h1, h2, h3, h4, h5, h6, h7⟩ := open_gridW R ht (by omega) (fun n cs y hl hy ho => hre n cs y (by omega) hy ho) h ho
    rw [hce] at h7 h6
    have hR : ListR R size l css := ⟨h5, h6⟩
    exact ⟨l, A, c, css, h1, h2, h3, by rw [← hb]; exact h4, hR, h7.row hs hR.all⟩⟩
/-- A field of a struct. -/
theorem rdw_part {α : Type} {R : α → List Value → Prop} {fs : Array Field} {i o sz : Nat} {f : Field} (ht : P.underlying t = some (.struct fs)) (hf : fs[i]? = some f) (ho : f.offset = o) (hr : RdW enc P W f.type sz R)
    {n : Nat} {cs : List Value} {y : DataW H × List MemPlace} (hl : o + sz ≤ cs.length) (h : DataW.trod enc P W 0 (fun _ => true) true n t cs = some y) (hw : okW P t y.1) : ∃ x, R x ((cs.drop o).take sz) := by
  obtain ⟨xs, m, _, hy, hcl, hxl, hx⟩ := DataW.trod_struct ht h
  have h1 := hx i f hf
  have hi : i < xs.length := by
    rcases Nat.lt_or_ge i fs.size with h2 | h2
    · omega
    · rw [Array.getElem?_eq_none h2] at hf; cases hf
  rw [List.getElem?_eq_getElem hi, hr.1, ho] at h1
  rw [hy] at hw
  simp only [okW, DataW.weights, ht] at hw
  exact hr.2 _ _ _ (by rw [List.length_take, List.length_drop]; omega) h1 (okW_each hw (i := i) (by simp [hf]) (by simp [hi]))
/-- A struct that comes in. -/
theorem rdw_arg {α : Type} {R : α → List Value → Prop} {fs : Array Field} {size : Nat} {r : Reach} {b0 : Nat} {v : Value} {d : DataW H} {p : List MemPlace} (ht : P.underlying t = some (.struct fs)) (hr : RdW enc P W t size R)
    (hv : Value.okWide P W r b0 t v) (h : DataW.Trod enc P W 0 (fun _ => true) true t v d p) (hw : (d.weights P t).all (· ≤ reachBytes) = true) : ∃ (cs : Array Value) (x : α), v = .agg cs ∧ cs.size = size ∧ R x cs.toList := by
  obtain ⟨cs, rfl, hs⟩ := okWide_struct ht hv
  obtain ⟨fuel, hf⟩ := h
  have hsz : cs.size = size := hs.trans hr.1
  obtain ⟨x, hx⟩ := hr.2 fuel cs.toList _ (by simpa using hsz) hf hw
  exact ⟨cs, x, rfl, hsz, hx⟩
/-- A slice that comes in. -/
theorem rdw_arg_slice {α : Type} {R : α → List Value → Prop} {e : TypeId} {r : Reach} {b0 : Nat} {v : Value} {d : DataW H} {p : List MemPlace} (ht : P.underlying t = some (.slice e)) (hr : RdW enc P W t 1 R)
    (hv : Value.okWide P W r b0 t v) (h : DataW.Trod enc P W 0 (fun _ => true) true t v d p) (hw : (d.weights P t).all (· ≤ reachBytes) = true) : ∃ x : α, R x [v] := by
  obtain ⟨a0, len, cap, rfl⟩ := okWide_slice ht hv
  obtain ⟨fuel, hf⟩ := h
  exact hr.2 fuel _ _ rfl hf hw
end
/-- What is so of each, beside its cells. -/
theorem ListR.each {α : Type} {R : α → List Value → Prop} {p : α → Prop} {size : Nat} {l : List α} {css : List (List Value)} (h : ListR (fun x cs => R x cs ∧ p x) size l css) : ListR R size l css ∧ ∀ x ∈ l, p x := by
  refine ⟨h.map fun x cs hx => hx.1, fun x hx => ?_⟩
  obtain ⟨i, hi, rfl⟩ := List.getElem_of_mem hx
  exact (h.2 i l[i] (css[i]'(by rw [h.1]; exact hi)) (List.getElem?_eq_getElem hi) (List.getElem?_eq_getElem _)).1.2
end Go.Proofs.Ytoaciliojdaoaaa
