/- What comes in, read by its types: numbers, texts, slices, structs, one in another. No condition. -/
import Derived.Test.YtoaciliojdaoaaaFrame4
import Derived.Test.YtoaciliojdaoaaaRel
namespace Go.Proofs.Ytoaciliojdaoaaa
open Go.RowKit Go.ChangeShapes Go.WideShapes Go.ChangeAt

theorem flatten_inv : ∀ (css : List (List Value)) (size : Nat) (_ : 0 < size) (_ : ∀ cs ∈ css, cs.length = size) (j : Nat) (u : Value), css.flatten[j]? = some u → ∃ cs, css[j / size]? = some cs ∧ cs[j % size]? = some u
  | [], size, _, _, j, u, h => by simp at h
  | c :: css, size, hs, hc, j, u, h => by
    have hcl : c.length = size := hc c (by simp)
    rw [List.flatten_cons] at h
    rcases Nat.lt_or_ge j size with hj | hj
    · rw [List.getElem?_append_left (by omega)] at h
      exact ⟨c, by rw [Nat.div_eq_of_lt hj]; rfl, by rw [Nat.mod_eq_of_lt hj]; exact h⟩
    · rw [List.getElem?_append_right (by omega), hcl] at h
      obtain ⟨cs, h1, h2⟩ := flatten_inv css size hs (fun x hx => hc x (by simp [hx])) (j - size) u h
      refine ⟨cs, ?_, by rw [Nat.mod_eq_sub_mod hj]; exact h2⟩
      rw [Nat.div_eq_sub_div hs hj]
      simpa using h1
theorem Grid.row {w : World} {A : Option Addr} {size : Nat} {css : List (List Value)} (h : Grid w A size css) (hs : 0 < size) (hc : ∀ cs ∈ css, cs.length = size) : Row w A css.flatten := by
  rcases h with h | ⟨b, o, hA, hb, hx⟩
  · subst h
    exact Or.inl rfl
  · refine Or.inr ⟨b, o, hA, hb, fun j u hu => ?_⟩
    obtain ⟨cs, h1, h2⟩ := flatten_inv css size hs hc j u hu
    have := hx _ cs h1 _ u h2
    rw [Nat.mul_comm, Nat.div_add_mod] at this
    exact this

section
variable {H : Type} {enc : TypeId × Value → H} {P : Program} {W : World} {t : TypeId}
/-- What a reading of a type in memory tells of its cells. -/
def Rd (enc : TypeId × Value → H) (P : Program) (W : World) (t : TypeId) (size : Nat) {α : Type} (R : α → List Value → Prop) : Prop :=
  P.cellsOf t = size ∧ ∀ (n : Nat) (cs : List Value) (y : DataW H × List MemPlace), cs.length = size → DataW.trod enc P W 0 (fun _ => true) true n t cs = some y → ∃ x, R x cs
theorem rd_int {k : IntKind} (ht : P.underlying t = some (.int k)) (hc : P.cellsOf t = 1) : Rd enc P W t 1 (fun (x : Int) cs => cs = [.int k x] ∧ (Lit.int k x).wf = true) :=
  ⟨hc, fun n cs y _ h => by
    obtain ⟨x, h1, _, h2⟩ := DataW.trod_int ht h
    exact ⟨x, h1, h2⟩⟩
theorem rd_bool (ht : P.underlying t = some .bool) (hc : P.cellsOf t = 1) : Rd enc P W t 1 (fun (x : Bool) cs => cs = [.bool x]) :=
  ⟨hc, fun n cs y _ h => by
    obtain ⟨x, h1, _⟩ := DataW.trod_bool ht h
    exact ⟨x, h1⟩⟩
theorem rd_str (ht : P.underlying t = some .string) (hc : P.cellsOf t = 1) : Rd enc P W t 1 (fun (x : ByteArray) cs => cs = [.string x] ∧ x.size ≤ maxLen) :=
  ⟨hc, fun n cs y _ h => by
    obtain ⟨x, h1, _, h2⟩ := DataW.trod_string ht h
    exact ⟨x, h1, h2⟩⟩
theorem rd_slice {α : Type} [Inhabited α] {R : α → List Value → Prop} {e : TypeId} {size : Nat} (ht : P.underlying t = some (.slice e)) (hc : P.cellsOf t = 1) (hs : 0 < size) (he : Rd enc P W e size R) :
    Rd enc P W t 1 (fun (l : List α) cs => ∃ A c css, cs = [.slice A l.length c] ∧ l.length ≤ maxLen ∧ ListR R size l css ∧ Row W A css.flatten) :=
  ⟨hc, fun n cs y _ h => by
    obtain ⟨hce, hre⟩ := he
    obtain ⟨A, c, l, css, h1, h2, h3, h4, h5⟩ := open_grid R ht (by omega) (fun n cs y hl hy => hre n cs y (by omega) hy) h
    rw [hce] at h5 h4
    have hR : ListR R size l css := ⟨h3, h4⟩
    exact ⟨l, A, c, css, h1, h2, hR, h5.row hs hR.all⟩⟩
theorem rd_map {α : Type} {R R' : α → List Value → Prop} {size : Nat} (h : Rd enc P W t size R) (H' : ∀ x cs, R x cs → R' x cs) : Rd enc P W t size R' :=
  ⟨h.1, fun n cs y hl hy => (h.2 n cs y hl hy).imp fun x hx => H' x cs hx⟩
theorem rd_turn {α β : Type} {R : α → List Value → Prop} {R' : β → List Value → Prop} {size : Nat} (h : Rd enc P W t size R) (H' : ∀ x cs, R x cs → ∃ z, R' z cs) : Rd enc P W t size R' :=
  ⟨h.1, fun n cs y hl hy => by
    obtain ⟨x, hx⟩ := h.2 n cs y hl hy
    exact H' x cs hx⟩
/-- A field of a struct. -/
theorem rd_part {α : Type} {R : α → List Value → Prop} {fs : Array Field} {i o sz : Nat} {f : Field} (ht : P.underlying t = some (.struct fs)) (hf : fs[i]? = some f) (ho : f.offset = o) (hr : Rd enc P W f.type sz R)
    {n : Nat} {cs : List Value} {y : DataW H × List MemPlace} (hl : o + sz ≤ cs.length) (h : DataW.trod enc P W 0 (fun _ => true) true n t cs = some y) : ∃ x, R x ((cs.drop o).take sz) := by
  obtain ⟨xs, m, _, _, hcl, hxl, hx⟩ := DataW.trod_struct ht h
  have h1 := hx i f hf
  have hi : i < xs.length := by
    rcases Nat.lt_or_ge i fs.size with h2 | h2
    · omega
    · rw [Array.getElem?_eq_none h2] at hf; cases hf
  rw [List.getElem?_eq_getElem hi, hr.1, ho] at h1
  exact hr.2 _ _ _ (by rw [List.length_take, List.length_drop]; omega) h1
/-- A struct that comes in. -/
theorem rd_arg {α : Type} {R : α → List Value → Prop} {fs : Array Field} {size : Nat} {r : Reach} {b0 : Nat} {v : Value} {d : DataW H} {p : List MemPlace} (ht : P.underlying t = some (.struct fs)) (hr : Rd enc P W t size R)
    (hv : Value.okWide P W r b0 t v) (h : DataW.Trod enc P W 0 (fun _ => true) true t v d p) : ∃ (cs : Array Value) (x : α), v = .agg cs ∧ cs.size = size ∧ R x cs.toList := by
  obtain ⟨cs, rfl, hs⟩ := okWide_struct ht hv
  obtain ⟨fuel, hf⟩ := h
  have hsz : cs.size = size := hs.trans hr.1
  obtain ⟨x, hx⟩ := hr.2 fuel cs.toList _ (by simpa using hsz) hf
  exact ⟨cs, x, rfl, hsz, hx⟩
/-- A slice that comes in. -/
theorem rd_arg_slice {α : Type} {R : α → List Value → Prop} {e : TypeId} {r : Reach} {b0 : Nat} {v : Value} {d : DataW H} {p : List MemPlace} (ht : P.underlying t = some (.slice e)) (hr : Rd enc P W t 1 R)
    (hv : Value.okWide P W r b0 t v) (h : DataW.Trod enc P W 0 (fun _ => true) true t v d p) : ∃ x : α, R x [v] := by
  obtain ⟨a0, len, cap, rfl⟩ := okWide_slice ht hv
  obtain ⟨fuel, hf⟩ := h
  exact hr.2 fuel _ _ rfl hf
/-- Numbers in a row. -/
theorem nums_row {k : IntKind} {w : World} {A : Option Addr} {l : List Int} {css : List (List Value)} (h : ListR (fun (x : Int) cs => cs = [.int k x] ∧ (Lit.int k x).wf = true) 1 l css) (hr : Row w A css.flatten) :
    Row w A (l.map (Value.int k)) ∧ ∀ x ∈ l, (Lit.int k x).wf = true := by
  have e : css = l.map fun x => [.int k x] := by
    apply List.ext_getElem?
    intro i
    by_cases hi : i < l.length
    · have h2 := (h.2 i l[i] (css[i]'(by rw [h.1]; exact hi)) (List.getElem?_eq_getElem hi) (List.getElem?_eq_getElem _)).1.1
      rw [List.getElem?_eq_getElem (by rw [h.1]; exact hi), List.getElem?_map, List.getElem?_eq_getElem hi, h2]
      rfl
    · rw [List.getElem?_eq_none (by rw [h.1]; omega), List.getElem?_eq_none (by rw [List.length_map]; omega)]
  refine ⟨?_, fun x hx => ?_⟩
  · subst e
    have : (l.map fun x => [Value.int k x]).flatten = l.map (Value.int k) := by
      clear h hr
      induction l with
      | nil => rfl
      | cons x l ih => simp [List.flatten_cons, ih]
    rw [this] at hr
    exact hr
  · obtain ⟨i, hi, rfl⟩ := List.getElem_of_mem hx
    exact (h.2 i l[i] (css[i]'(by rw [h.1]; exact hi)) (List.getElem?_eq_getElem hi) (List.getElem?_eq_getElem _)).1.2
end
end Go.Proofs.Ytoaciliojdaoaaa
