/- Expressions, as they lie in memory. No condition. -/
import Derived.Test.YtoaciliojdaoaaaRead
namespace Go.Proofs.Ytoaciliojdaoaaa
open Go.RowKit Go.ChangeShapes Go.WideShapes Go.ChangeAt

/-- An expression: its sign, names, places, value, and parts. -/
inductive Ex where
  | mk (op : Int) (tab name : ByteArray) (t c vk vi : Int) (vs : ByteArray) (l : List Ex) : Ex
instance ex_some : Inhabited Ex := ⟨.mk 0 ByteArray.empty ByteArray.empty 0 0 0 0 ByteArray.empty []⟩
namespace Ex
def op : Ex → Int | mk o _ _ _ _ _ _ _ _ => o
def tab : Ex → ByteArray | mk _ o _ _ _ _ _ _ _ => o
def name : Ex → ByteArray | mk _ _ o _ _ _ _ _ _ => o
def t : Ex → Int | mk _ _ _ o _ _ _ _ _ => o
def c : Ex → Int | mk _ _ _ _ o _ _ _ _ => o
def vk : Ex → Int | mk _ _ _ _ _ o _ _ _ => o
def vi : Ex → Int | mk _ _ _ _ _ _ o _ _ => o
def vs : Ex → ByteArray | mk _ _ _ _ _ _ _ o _ => o
def l : Ex → List Ex | mk _ _ _ _ _ _ _ _ o => o
theorem eta (x : Ex) : x = mk x.op x.tab x.name x.t x.c x.vk x.vi x.vs x.l := by cases x; rfl
theorem part_lt (x : Ex) {y : Ex} (h : y ∈ x.l) : SizeOf.sizeOf y < SizeOf.sizeOf x := by
  cases x
  have := List.sizeOf_lt_of_mem h
  simp only [l, mk.sizeOf_spec] at this ⊢
  omega
theorem ext' {x y : Ex} (h0 : x.op = y.op) (h1 : x.tab = y.tab) (h2 : x.name = y.name) (h3 : x.t = y.t) (h4 : x.c = y.c) (h5 : x.vk = y.vk) (h6 : x.vi = y.vi) (h7 : x.vs = y.vs) (h8 : x.l = y.l) : x = y := by
  rw [eta x, eta y, h0, h1, h2, h3, h4, h5, h6, h7, h8]
end Ex
mutual
/-- How many expressions it has, it among them. -/
def Ex.nodes : Ex → Nat
  | .mk _ _ _ _ _ _ _ _ l => 1 + nodesL l
def nodesL : List Ex → Nat
  | [] => 0
  | x :: l => x.nodes + nodesL l
end
theorem nodes_eq (x : Ex) : x.nodes = 1 + nodesL x.l := by cases x; simp only [Ex.nodes, Ex.l]
theorem nodes_pos (x : Ex) : 1 ≤ x.nodes := by rw [nodes_eq]; omega
theorem nodesL_mem {l : List Ex} {y : Ex} (h : y ∈ l) : y.nodes ≤ nodesL l := by
  induction l with
  | nil => cases h
  | cons x l ih =>
    simp only [nodesL]
    rcases List.mem_cons.1 h with h1 | h1
    · subst h1; omega
    · have := ih h1; omega
theorem nodesL_len (l : List Ex) : l.length ≤ nodesL l := by
  induction l with
  | nil => simp [nodesL]
  | cons x l ih => simp only [nodesL, List.length_cons]; have := nodes_pos x; omega
theorem nodes_part {x y : Ex} (h : y ∈ x.l) : y.nodes < x.nodes := by rw [nodes_eq x]; have := nodesL_mem h; omega
theorem nodes_len (x : Ex) : x.l.length < x.nodes := by rw [nodes_eq x]; have := nodesL_len x.l; omega
/-- Whatever holds of an expression if it holds of its parts. -/
theorem ex_ind {P : Ex → Prop} (h : ∀ x, (∀ y ∈ x.l, P y) → P x) (x : Ex) : P x := by
  have : ∀ n, ∀ x : Ex, SizeOf.sizeOf x < n → P x := by
    intro n
    induction n with
    | zero => intro x hx; omega
    | succ n ih => exact fun x hx => h x fun y hy => ih y (by have := x.part_lt hy; omega)
  exact this _ x (Nat.lt_succ_self _)
/-- The cells of an expression whose parts lie at A. -/
def exC (x : Ex) (A : Option Addr) (k : Nat) : List Value := [.int .i64 x.op, .string x.tab, .string x.name, .int .i64 x.t, .int .i64 x.c, .int .i64 x.vk, .int .i64 x.vi, .string x.vs, .slice A x.l.length k]
def exV (x : Ex) (A : Option Addr) (k : Nat) : Value := .agg #[.int .i64 x.op, .string x.tab, .string x.name, .int .i64 x.t, .int .i64 x.c, .int .i64 x.vk, .int .i64 x.vi, .string x.vs, .slice A x.l.length k]
inductive ExR (R : Rw) : Ex → List Value → Prop
  | mk (x : Ex) (A : Option Addr) (k : Nat) (css : List (List Value)) (h1 : css.length = x.l.length) (h2 : ∀ (i : Nat) (y : Ex) (cs : List Value), x.l[i]? = some y → css[i]? = some cs → ExR R y cs)
      (h3 : ∀ cs ∈ css, cs.length = 9) (h4 : R 27 A css.flatten) : ExR R x (exC x A k)
def ExsR (R : Rw) (A : Option Addr) (l : List Ex) : Prop := ∃ css, ListR (ExR R) 9 l css ∧ R 27 A css.flatten
section
variable {R R1 R2 : Rw} {x : Ex} {cs : List Value} {A : Option Addr} {l : List Ex}
theorem ExR.parts (h : ExR R x cs) : ∃ A k, cs = exC x A k ∧ ExsR R A x.l := by
  obtain ⟨_, A, k, css, h1, h2, h3, h4⟩ := h
  exact ⟨A, k, rfl, css, ⟨h1, fun i y cs q1 q2 => ⟨h2 i y cs q1 q2, h3 cs (List.mem_of_getElem? q2)⟩⟩, h4⟩
theorem ExR.make (h : ExsR R A x.l) (k : Nat) : ExR R x (exC x A k) := by
  obtain ⟨css, h1, h2⟩ := h
  exact .mk x A k css h1.1 (fun i y cs q1 q2 => (h1.2 i y cs q1 q2).1) h1.all h2
theorem ExR.map (h : ExR R1 x cs) (H : ∀ e A xs, R1 e A xs → R2 e A xs) : ExR R2 x cs := by
  induction h with
  | mk x A k css h1 h2 h3 h4 ih => exact .mk x A k css h1 ih h3 (H _ _ _ h4)
theorem ExsR.map (h : ExsR R1 A l) (H : ∀ e A xs, R1 e A xs → R2 e A xs) : ExsR R2 A l := by
  obtain ⟨css, h1, h2⟩ := h
  exact ⟨css, h1.map (fun x cs hr => hr.map H), H _ _ _ h2⟩
end
theorem ExR.grew {w w' : World} {x : Ex} {cs : List Value} (h : ExR (PRow w) x cs) (g : Grew w w') : ExR (PRow w') x cs := h.map fun _ _ _ h => Row.grew h g
theorem ExsR.grew {w w' : World} {A : Option Addr} {l : List Ex} (h : ExsR (PRow w) A l) (g : Grew w w') : ExsR (PRow w') A l := h.map fun _ _ _ h => Row.grew h g
/-- A part, in memory. -/
theorem exsR_at {w : World} {A : Option Addr} {l : List Ex} (h : ExsR (PRow w) A l) {i : Nat} (hi : i < l.length) :
    ∃ b o B k, A = some ⟨b, o, none⟩ ∧ b < w.heap.size ∧ ExsR (PRow w) B l[i].l ∧ ∀ j u, (exC l[i] B k)[j]? = some u → w.cell? ⟨b, o + (i * 9 + j), none⟩ = some u := by
  obtain ⟨css, h1, h2⟩ := h
  obtain ⟨b, o, cs, hA, hb, hr, _, hc⟩ := h1.at_ h2 (by decide) hi
  obtain ⟨B, k, rfl, hp⟩ := hr.parts
  exact ⟨b, o, B, k, hA, hb, hp, hc⟩
/-- The nine cells of a part. -/
structure At9 (w : World) (b o : Nat) (x : Ex) (B : Option Addr) (k : Nat) : Prop where
  lt : b < w.heap.size
  a0 : w.cell? ⟨b, o, none⟩ = some (.int .i64 x.op)
  a1 : w.cell? ⟨b, o + 1, none⟩ = some (.string x.tab)
  a2 : w.cell? ⟨b, o + 2, none⟩ = some (.string x.name)
  a3 : w.cell? ⟨b, o + 3, none⟩ = some (.int .i64 x.t)
  a4 : w.cell? ⟨b, o + 4, none⟩ = some (.int .i64 x.c)
  a5 : w.cell? ⟨b, o + 5, none⟩ = some (.int .i64 x.vk)
  a6 : w.cell? ⟨b, o + 6, none⟩ = some (.int .i64 x.vi)
  a7 : w.cell? ⟨b, o + 7, none⟩ = some (.string x.vs)
  a8 : w.cell? ⟨b, o + 8, none⟩ = some (.slice B x.l.length k)
theorem exsR_nine {w : World} {A : Option Addr} {l : List Ex} (h : ExsR (PRow w) A l) {i : Nat} (hi : i < l.length) :
    ∃ b o B k, A = some ⟨b, o, none⟩ ∧ ExsR (PRow w) B l[i].l ∧ At9 w b (o + i * 9) l[i] B k := by
  obtain ⟨b, o, B, k, hA, hb, hp, hc⟩ := exsR_at h hi
  have hc' : ∀ j u, (exC l[i] B k)[j]? = some u → w.cell? ⟨b, o + i * 9 + j, none⟩ = some u := fun j u hu => by rw [Nat.add_assoc]; exact hc j u hu
  exact ⟨b, o, B, k, hA, hp, hb, hc' 0 _ rfl, hc' 1 _ rfl, hc' 2 _ rfl, hc' 3 _ rfl, hc' 4 _ rfl, hc' 5 _ rfl, hc' 6 _ rfl, hc' 7 _ rfl, hc' 8 _ rfl⟩
theorem At9.grew {w w' : World} {b o : Nat} {x : Ex} {B : Option Addr} {k : Nat} (h : At9 w b o x B k) (g : Grew w w') : At9 w' b o x B k := by
  obtain ⟨z, rfl⟩ := g
  obtain ⟨h0, h1, h2, h3, h4, h5, h6, h7, h8, h9⟩ := h
  have e : ∀ j u, w.cell? ⟨b, j, none⟩ = some u → (more w z).cell? ⟨b, j, none⟩ = some u := fun j u hu => by rw [more_cell _ _ _ h0]; exact hu
  exact ⟨by rw [more_size]; omega, e _ _ h1, e _ _ h2, e _ _ h3, e _ _ h4, e _ _ h5, e _ _ h6, e _ _ h7, e _ _ h8, e _ _ h9⟩
theorem blok9 {w : World} {g : Nat} {x : Ex} {A : Option Addr} {k : Nat} (h : Blok w g 27 (exC x A k).toArray) : At9 w g 0 x A k :=
  ⟨h.lt, h.cell 0, h.cell 1, h.cell 2, h.cell 3, h.cell 4, h.cell 5, h.cell 6, h.cell 7, h.cell 8⟩

section
variable {H : Type} {enc : TypeId × Value → H} {P : Program} {W : World}
/-- A slice, whose elements are read with less. -/
theorem open_less {α : Type} [Inhabited α] {R : α → List Value → Prop} {t e : TypeId} {size n : Nat} {cs : List Value} {y : DataW H × List MemPlace} (ht : P.underlying t = some (.slice e)) (hs : 0 < size) (hce : P.cellsOf e = size)
    (hone : ∀ (m : Nat) (cs : List Value) (y : DataW H × List MemPlace), m < n → cs.length = size → DataW.trod enc P W 0 (fun _ => true) true m e cs = some y → ∃ x, R x cs)
    (h : DataW.trod enc P W 0 (fun _ => true) true n t cs = some y) : ∃ (l : List α) (A : Option Addr) (c : Nat) (css : List (List Value)), cs = [.slice A l.length c] ∧ l.length ≤ maxLen ∧ ListR R size l css ∧ Row W A css.flatten := by
  have hle : ∀ m, (∀ cs y, cs.length = size → DataW.trod enc P W 0 (fun _ => true) true m e cs = some y → ∃ x, R x cs) ∨ n ≤ m := fun m => (Nat.lt_or_ge m n).imp (fun hm cs y hl hy => hone m cs y hm hl hy) id
  rcases DataW.trod_slice ht h with ⟨rfl, rfl⟩ | ⟨a, len, cap, elems, rest, m, hn, rfl, rfl, hb, hlc, hm, hlen, hel, hsp, hns⟩
  · exact ⟨[], none, 0, [], rfl, by unfold maxLen; simp, ListR.nil, Or.inl rfl⟩
  · obtain ⟨C, hC⟩ := Go.Deep.choose_lt (α := List Value) (n := len) (p := fun i ds => W.cells? 0 (a.add (i * P.cellsOf e)) (P.cellsOf e) = some ds ∧ ∃ y, DataW.trod enc P W 0 (fun _ => true) true m e ds = some y) (fun i hi => by
      have h1 := hel i hi
      rw [List.getElem?_eq_getElem (by omega)] at h1
      obtain ⟨ds, h2, h3⟩ := Option.bind_eq_some_iff.1 h1
      exact ⟨ds, h2, _, h3⟩)
    have hlenC : ∀ i, i < len → (C i).length = size := fun i hi => by rw [← hce]; exact (World.cells?_some (hC i hi).1).2.1
    obtain ⟨X, hX⟩ := Go.Deep.choose_lt (α := α) (n := len) (p := fun i x => R x (C i)) (fun i hi => by
      obtain ⟨y, hy⟩ := (hC i hi).2
      exact hone m _ _ (by omega) (hlenC i hi) hy)
    refine ⟨(List.range len).map X, some a, cap, (List.range len).map C, by simp, by simp; omega, ⟨by simp, fun i x ds hi hd => ?_⟩, ?_⟩
    · have hlt : i < len := by
        rcases Nat.lt_or_ge i len with h | h
        · exact h
        · rw [List.getElem?_eq_none (by simpa using h)] at hi; cases hi
      simp [hlt] at hi hd
      subst hi hd
      exact ⟨hX i hlt, hlenC i hlt⟩
    · by_cases h0 : len = 0
      · subst h0
        exact Or.inl (by simp)
      · have hcell : ∀ i, i < len → ∀ j u, (C i)[j]? = some u → W.cell? (a.add (i * size + j)) = some u := by
          intro i hi j u hu
          obtain ⟨_, h2, h3⟩ := World.cells?_some (hC i hi).1
          have hj : j < P.cellsOf e := by
            rcases Nat.lt_or_ge j (P.cellsOf e) with h | h
            · exact h
            · rw [List.getElem?_eq_none (by omega)] at hu; cases hu
          have := h3 j hj
          rw [Go.Deep.add_add] at this
          rw [← hce, this, hu]
        have hG : Grid W (some a) size ((List.range len).map C) := by
          obtain ⟨b, off, path⟩ := a
          obtain ⟨u0, hu0⟩ : ∃ u, (C 0)[0]? = some u := ⟨_, List.getElem?_eq_getElem (by rw [hlenC 0 (by omega)]; exact hs)⟩
          have h1 := hcell 0 (by omega) 0 u0 hu0
          have hp : path = none := by simpa [Addr.add] using World.cell?_spot h1
          subst hp
          refine Or.inr ⟨b, off, rfl, ?_, fun i ds hi j u hu => ?_⟩
          · have := cell_lt h1
            simpa [Addr.add] using this
          · have hlt : i < len := by
              rcases Nat.lt_or_ge i len with h | h
              · exact h
              · rw [List.getElem?_eq_none (by simpa using h)] at hi; cases hi
            simp [hlt] at hi
            subst hi
            have := hcell i hlt j u hu
            rw [add_plain] at this
            exact this
        refine hG.row hs fun ds hd => ?_
        obtain ⟨i, hi, rfl⟩ := List.mem_map.1 hd
        exact hlenC i (by simpa using hi)
theorem nine_of {cs : List Value} (h : cs.length = 9) : ∃ b0 b1 b2 b3 b4 b5 b6 b7 b8, cs = [b0, b1, b2, b3, b4, b5, b6, b7, b8] := by
  match cs, h with
  | [b0, b1, b2, b3, b4, b5, b6, b7, b8], _ => exact ⟨_, _, _, _, _, _, _, _, _, rfl⟩
theorem ex_close {R : Rw} {cs : List Value} {op t c vk vi : Int} {tab name vs : ByteArray} {l : List Ex} {A : Option Addr} {k : Nat} (hl : cs.length = 9)
    (h0 : (cs.drop 0).take 1 = [.int .i64 op]) (h1 : (cs.drop 1).take 1 = [.string tab]) (h2 : (cs.drop 2).take 1 = [.string name]) (h3 : (cs.drop 3).take 1 = [.int .i64 t]) (h4 : (cs.drop 4).take 1 = [.int .i64 c])
    (h5 : (cs.drop 5).take 3 = [.int .i64 vk, .int .i64 vi, .string vs]) (h8 : (cs.drop 8).take 1 = [.slice A l.length k]) (hr : ExsR R A l) : ∃ x : Ex, ExR R x cs := by
  obtain ⟨b0, b1, b2, b3, b4, b5, b6, b7, b8, rfl⟩ := nine_of hl
  simp only [List.drop_zero, List.drop_succ_cons, List.take_succ_cons, List.take_zero, List.cons.injEq, and_true] at h0 h1 h2 h3 h4 h5 h8
  obtain ⟨rfl, rfl, rfl⟩ := h5
  subst h0 h1 h2 h3 h4 h8
  exact ⟨_, ExR.make (x := .mk op tab name t c vk vi vs l) hr k⟩
/-- What a reading of an expression tells. -/
theorem rd_ex : Rd enc Try.prog W 27 9 (fun (x : Ex) cs => ExR (PRow W) x cs) := by
  refine ⟨by kernel_rfl, fun n => ?_⟩
  induction n using Nat.strongRecOn with
  | ind n ih =>
    intro cs y hl h
    have ri : Rd enc Try.prog W 3 1 (fun (x : Int) cs => cs = [.int .i64 x] ∧ (Lit.int .i64 x).wf = true) := rd_int Try.underlying3 (by kernel_rfl)
    have rs : Rd enc Try.prog W 9 1 (fun (x : ByteArray) cs => cs = [.string x] ∧ x.size ≤ maxLen) := rd_str Try.underlying9 (by kernel_rfl)
    obtain ⟨op, h0, _⟩ := rd_part (i := 0) (o := 0) Try.underlying27 rfl rfl ri (by rw [hl]; decide) h
    obtain ⟨tab, h1, _⟩ := rd_part (i := 1) (o := 1) Try.underlying27 rfl rfl rs (by rw [hl]; decide) h
    obtain ⟨name, h2, _⟩ := rd_part (i := 2) (o := 2) Try.underlying27 rfl rfl rs (by rw [hl]; decide) h
    obtain ⟨t, h3, _⟩ := rd_part (i := 3) (o := 3) Try.underlying27 rfl rfl ri (by rw [hl]; decide) h
    obtain ⟨c, h4, _⟩ := rd_part (i := 4) (o := 4) Try.underlying27 rfl rfl ri (by rw [hl]; decide) h
    have rv : Rd enc Try.prog W 25 3 (fun (x : Int × Int × ByteArray) cs => cs = [.int .i64 x.1, .int .i64 x.2.1, .string x.2.2]) :=
      ⟨by kernel_rfl, fun n cs y hl h => by
        obtain ⟨vk, h0, _⟩ := rd_part (i := 0) (o := 0) Try.underlying25 rfl rfl ri (by rw [hl]; decide) h
        obtain ⟨vi, h1, _⟩ := rd_part (i := 1) (o := 1) Try.underlying25 rfl rfl ri (by rw [hl]; decide) h
        obtain ⟨vs, h2, _⟩ := rd_part (i := 2) (o := 2) Try.underlying25 rfl rfl rs (by rw [hl]; decide) h
        match cs, hl with
        | [a, b, d], _ =>
          simp at h0 h1 h2
          subst h0 h1 h2
          exact ⟨(vk, vi, vs), rfl⟩⟩
    obtain ⟨⟨vk, vi, vs⟩, h5⟩ := rd_part (i := 5) (o := 5) Try.underlying27 rfl rfl rv (by rw [hl]; decide) h
    obtain ⟨xs, m, hn, _, hcl, hxl, hx⟩ := DataW.trod_struct Try.underlying27 h
    have h8 := hx 6 _ rfl
    rw [List.getElem?_eq_getElem (by rw [hxl]; decide)] at h8
    obtain ⟨l, A, k, css, h9, _, h10, h11⟩ := open_less (R := fun (x : Ex) cs => ExR (PRow W) x cs) (size := 9) Try.underlying22 (by decide) (by kernel_rfl) (fun j cs y hj hl hy => ih j (by omega) cs y hl hy) h8
    have hc1 : Try.prog.cellsOf 22 = 1 := by kernel_rfl
    have h9' : (cs.drop 8).take (Try.prog.cellsOf 22) = [.slice A l.length k] := h9
    rw [hc1] at h9'
    exact ex_close hl h0 h1 h2 h3 h4 h5 h9' ⟨css, h10, h11⟩
end
end Go.Proofs.Ytoaciliojdaoaaa
