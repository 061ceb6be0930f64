/- Expressions that come in, with what their size in bytes tells. No condition. -/
import Derived.Test.YtoaciliojdaoaaaEx
import Derived.Test.YtoaciliojdaoaaaTab
namespace Go.Proofs.Ytoaciliojdaoaaa
open Go.RowKit Go.ChangeShapes Go.WideShapes Go.ChangeAt

/-- No part takes more than the reach, and numbers are numbers. -/
inductive ExOk : Ex → Prop
  | mk (x : Ex) (h0 : (Lit.int .i64 x.op).wf = true) (h1 : x.tab.size ≤ 140737488355328) (h2 : x.name.size ≤ 140737488355328) (h3 : (Lit.int .i64 x.t).wf = true) (h4 : (Lit.int .i64 x.c).wf = true) (h5 : VlOk ⟨x.vk, x.vi, x.vs⟩)
      (h6 : x.l.length ≤ 140737488355328) (h7 : ∀ y ∈ x.l, ExOk y) : ExOk x
def ExsOk (l : List Ex) : Prop := l.length ≤ 140737488355328 ∧ ∀ y ∈ l, ExOk y
theorem ExOk.parts {x : Ex} (h : ExOk x) : ExsOk x.l := by
  obtain ⟨_, _, _, _, _, _, _, h6, h7⟩ := h
  exact ⟨h6, h7⟩
theorem ExOk.val {x : Ex} (h : ExOk x) : VlOk ⟨x.vk, x.vi, x.vs⟩ := by
  obtain ⟨_, _, _, _, _, _, h5, _, _⟩ := h
  exact h5
section
variable {H : Type} {enc : TypeId × Value → H} {P : Program} {W : World}
/-- A slice, whose elements are read with less. -/
theorem open_lessW {α : Type} [Inhabited α] {R : α → List Value → Prop} {t e : TypeId} {size n : Nat} {cs : List Value} {y : DataW H × List MemPlace} (ht : P.underlying t = some (.slice e)) (hs : 0 < size) (hce : P.cellsOf e = size)
    (hone : ∀ (m : Nat) (cs : List Value) (y : DataW H × List MemPlace), m < n → cs.length = size → DataW.trod enc P W 0 (fun _ => true) true m e cs = some y → okW P e y.1 → ∃ x, R x cs)
    (h : DataW.trod enc P W 0 (fun _ => true) true n t cs = some y) (ho : okW P t y.1) : ∃ (l : List α) (A : Option Addr) (c : Nat) (css : List (List Value)), cs = [.slice A l.length c] ∧ l.length ≤ c ∧ c * P.bytesOf e ≤ reachBytes ∧ ListR R size l css ∧ Row W A css.flatten := by
  rcases DataW.trod_slice ht h with ⟨rfl, rfl⟩ | ⟨a, len, cap, elems, rest, m, hn, rfl, rfl, hb, hlc, hm, hlen, hel, hsp, hns⟩
  · exact ⟨[], none, 0, [], rfl, Nat.le_refl _, by simp, ListR.nil, Or.inl rfl⟩
  · simp only [okW, DataW.weights, ht, List.all_cons, List.all_append, Bool.and_eq_true, decide_eq_true_eq, List.length_map] at ho
    obtain ⟨ho1, ho2, _⟩ := ho
    have hrest : rest.length = cap - len := (hsp rfl).1
    obtain ⟨C, hC⟩ := Go.Deep.choose_lt (α := List Value) (n := len) (p := fun i ds => W.cells? 0 (a.add (i * P.cellsOf e)) (P.cellsOf e) = some ds ∧ ∃ y, DataW.trod enc P W 0 (fun _ => true) true m e ds = some y ∧ okW P e y.1) (fun i hi => by
      have h1 := hel i hi
      rw [List.getElem?_eq_getElem (by omega)] at h1
      obtain ⟨ds, h2, h3⟩ := Option.bind_eq_some_iff.1 h1
      exact ⟨ds, h2, _, h3, okW_all ho2 (i := i) (by rw [List.getElem?_map, List.getElem?_eq_getElem (by omega)]; rfl)⟩)
    have hlenC : ∀ i, i < len → (C i).length = size := fun i hi => by rw [← hce]; exact (World.cells?_some (hC i hi).1).2.1
    obtain ⟨X, hX⟩ := Go.Deep.choose_lt (α := α) (n := len) (p := fun i x => R x (C i)) (fun i hi => by
      obtain ⟨y, hy, hy2⟩ := (hC i hi).2
      exact hone m _ _ (by omega) (hlenC i hi) hy hy2)
    refine ⟨(List.range len).map X, some a, cap, (List.range len).map C, by simp, by simpa using hlc, ?_, ⟨by simp, fun i x ds hi hd => ?_⟩, ?_⟩
    · rw [hlen, hrest, show len + (cap - len) = cap by omega] at ho1
      exact ho1
    · have hlt : i < len := by
        rcases Nat.lt_or_ge i len with h | h
        · exact h
        · rw [List.getElem?_eq_none (by simpa using h)] at hi; cases hi
      simp [hlt] at hi hd
      subst hi hd
      exact ⟨hX i hlt, hlenC i hlt⟩
    · by_cases h0 : len = 0
      · subst h0
        exact Or.inl (by simp)
      · have hcell : ∀ i, i < len → ∀ j u, (C i)[j]? = some u → W.cell? (a.add (i * size + j)) = some u := by
          intro i hi j u hu
          obtain ⟨_, h2, h3⟩ := World.cells?_some (hC i hi).1
          have hj : j < P.cellsOf e := by
            rcases Nat.lt_or_ge j (P.cellsOf e) with h | h
            · exact h
            · rw [List.getElem?_eq_none (by omega)] at hu; cases hu
          have := h3 j hj
          rw [Go.Deep.add_add] at this
          rw [← hce, this, hu]
        have hG : Grid W (some a) size ((List.range len).map C) := by
          obtain ⟨b, off, path⟩ := a
          obtain ⟨u0, hu0⟩ : ∃ u, (C 0)[0]? = some u := ⟨_, List.getElem?_eq_getElem (by rw [hlenC 0 (by omega)]; exact hs)⟩
          have h1 := hcell 0 (by omega) 0 u0 hu0
          have hp : path = none := by simpa [Addr.add] using World.cell?_spot h1
          subst hp
          refine Or.inr ⟨b, off, rfl, ?_, fun i ds hi j u hu => ?_⟩
          · have := cell_lt h1
            simpa [Addr.add] using this
          · have hlt : i < len := by
              rcases Nat.lt_or_ge i len with h | h
              · exact h
              · rw [List.getElem?_eq_none (by simpa using h)] at hi; cases hi
            simp [hlt] at hi
            subst hi
            have := hcell i hlt j u hu
            rw [add_plain] at this
            exact this
        refine hG.row hs fun ds hd => ?_
        obtain ⟨i, hi, rfl⟩ := List.mem_map.1 hd
        exact hlenC i (by simpa using hi)
theorem ex_closeW {R : Rw} {cs : List Value} {op t c vk vi : Int} {tab name vs : ByteArray} {l : List Ex} {A : Option Addr} {k : Nat} (hl : cs.length = 9)
    (h0 : (cs.drop 0).take 1 = [.int .i64 op]) (h1 : (cs.drop 1).take 1 = [.string tab]) (h2 : (cs.drop 2).take 1 = [.string name]) (h3 : (cs.drop 3).take 1 = [.int .i64 t]) (h4 : (cs.drop 4).take 1 = [.int .i64 c])
    (h5 : (cs.drop 5).take 3 = [.int .i64 vk, .int .i64 vi, .string vs]) (h8 : (cs.drop 8).take 1 = [.slice A l.length k]) (hr : ExsR R A l) : ExR R (.mk op tab name t c vk vi vs l) cs := by
  obtain ⟨b0, b1, b2, b3, b4, b5, b6, b7, b8, rfl⟩ := nine_of hl
  simp only [List.drop_zero, List.drop_succ_cons, List.take_succ_cons, List.take_zero, List.cons.injEq, and_true] at h0 h1 h2 h3 h4 h5 h8
  obtain ⟨rfl, rfl, rfl⟩ := h5
  subst h0 h1 h2 h3 h4 h8
  exact ExR.make (x := .mk op tab name t c vk vi vs l) hr k
/-- What a reading of an expression tells. -/
theorem rdw_ex : RdW enc Try.prog W 27 9 (fun (x : Ex) cs => ExR (PRow W) x cs ∧ ExOk x) := by
  refine ⟨by kernel_rfl, fun n => ?_⟩
  induction n using Nat.strongRecOn with
  | ind n ih =>
    intro cs y hl h ho
    obtain ⟨op, h0, w0⟩ := rdw_part (i := 0) (o := 0) Try.underlying27 rfl rfl rdw_iT (by rw [hl]; decide) h ho
    obtain ⟨tab, h1, w1⟩ := rdw_part (i := 1) (o := 1) Try.underlying27 rfl rfl rdw_sT (by rw [hl]; decide) h ho
    obtain ⟨name, h2, w2⟩ := rdw_part (i := 2) (o := 2) Try.underlying27 rfl rfl rdw_sT (by rw [hl]; decide) h ho
    obtain ⟨t, h3, w3⟩ := rdw_part (i := 3) (o := 3) Try.underlying27 rfl rfl rdw_iT (by rw [hl]; decide) h ho
    obtain ⟨c, h4, w4⟩ := rdw_part (i := 4) (o := 4) Try.underlying27 rfl rfl rdw_iT (by rw [hl]; decide) h ho
    obtain ⟨⟨vk, vi, vs⟩, h5, w5⟩ := rdw_part (i := 5) (o := 5) Try.underlying27 rfl rfl rdw_vl (by rw [hl]; decide) h ho
    unfold VlR at h5
    simp only at h5
    obtain ⟨xs, m, hn, hy, hcl, hxl, hx⟩ := DataW.trod_struct Try.underlying27 h
    have h8 := hx 6 _ rfl
    have h6l : 6 < xs.length := by rw [hxl]; decide
    rw [List.getElem?_eq_getElem h6l] at h8
    have ho2 := ho
    rw [hy] at ho2
    simp only [okW, DataW.weights, Try.underlying27] at ho2
    have ho6 : okW Try.prog 22 xs[6].1 := okW_each ho2 (i := 6) rfl (by simp [h6l])
    obtain ⟨l, A, k, css, h9, hlk, hkr, h10, h11⟩ := open_lessW (R := fun (x : Ex) cs => ExR (PRow W) x cs ∧ ExOk x) (size := 9) Try.underlying22 (by decide) (by kernel_rfl) (fun j cs y hj hl hy ho => ih j (by omega) cs y hl hy ho) h8 ho6
    have hc1 : Try.prog.cellsOf 22 = 1 := by kernel_rfl
    have hb1 : Try.prog.bytesOf 27 = 112 := by kernel_rfl
    have h9' : (cs.drop 8).take (Try.prog.cellsOf 22) = [.slice A l.length k] := h9
    rw [hc1] at h9'
    rw [hb1] at hkr
    refine ⟨_, ex_closeW hl h0 h1 h2 h3 h4 h5 h9' ⟨css, h10.each.1, h11⟩, ?_⟩
    have := reach_small
    exact .mk _ w0 (Nat.le_trans w1 this) (Nat.le_trans w2 this) w3 w4 w5 (cap_small hlk (by decide) hkr) h10.each.2
theorem rdw_exs : RdW enc Try.prog W 22 1 (fun (x : List Ex) cs => (∃ A c, cs = [.slice A x.length c] ∧ x.length ≤ c ∧ ExsR (PRow W) A x) ∧ ExsOk x) :=
  rdw_map (rdw_slice Try.underlying22 (by kernel_rfl) (by decide) (bytes := 112) (by kernel_rfl) rdw_ex) fun l cs ⟨A, c, css, h1, h2, _, h4, h5, h6⟩ =>
    ⟨⟨A, c, h1, h2, css, h5.each.1, h6⟩, cap_small h2 (by decide) h4, h5.each.2⟩
end
end Go.Proofs.Ytoaciliojdaoaaa
