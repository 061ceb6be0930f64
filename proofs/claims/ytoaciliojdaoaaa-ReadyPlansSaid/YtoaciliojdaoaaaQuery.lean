/- Queries, as they lie in memory, and as they come in. No condition. -/
import Derived.Test.YtoaciliojdaoaaaEx
namespace Go.Proofs.Ytoaciliojdaoaaa
open Go.RowKit Go.ChangeShapes Go.WideShapes Go.ChangeAt

/-- One table that is read from: how it is joined, its name, its short name, on what. -/
structure Fr where
  join : Int
  table : ByteArray
  short : ByteArray
  on : Ex
instance fr_some : Inhabited Fr := ⟨⟨0, ByteArray.empty, ByteArray.empty, default⟩⟩
def FrR (R : Rw) (x : Fr) (cs : List Value) : Prop := ∃ A k, cs = .int .i64 x.join :: .string x.table :: .string x.short :: exC x.on A k ∧ ExsR R A x.on.l
def FrsR (R : Rw) (A : Option Addr) (l : List Fr) : Prop := ∃ css, ListR (FrR R) 12 l css ∧ R 46 A css.flatten
theorem FrR.grew {w w' : World} {x : Fr} {cs : List Value} (h : FrR (PRow w) x cs) (g : Grew w w') : FrR (PRow w') x cs := by
  obtain ⟨A, k, h1, h2⟩ := h
  exact ⟨A, k, h1, h2.grew g⟩
theorem FrsR.grew {w w' : World} {A : Option Addr} {l : List Fr} (h : FrsR (PRow w) A l) (g : Grew w w') : FrsR (PRow w') A l := by
  obtain ⟨css, h1, h2⟩ := h
  exact ⟨css, h1.map fun x cs hx => hx.grew g, Row.grew h2 g⟩
/-- A query. -/
structure Qy where
  items : List Ex
  src : List Fr
  wh : Ex
  group : List Ex
def QyR (R : Rw) (q : Qy) (cs : List Value) : Prop := ∃ A k B j C c D d, cs = .slice A q.items.length k :: .slice B q.src.length j :: (exC q.wh C c ++ [.slice D q.group.length d]) ∧ ExsR R A q.items ∧ FrsR R B q.src ∧ ExsR R C q.wh.l ∧ ExsR R D q.group
/-- One part of the sources, in memory: its twelve cells. -/
theorem frsR_at {w : World} {A : Option Addr} {l : List Fr} (h : FrsR (PRow w) A l) {i : Nat} (hi : i < l.length) :
    ∃ b o B k, A = some ⟨b, o, none⟩ ∧ ExsR (PRow w) B l[i].on.l ∧ At9 w b (o + i * 12 + 3) l[i].on B k ∧ w.cell? ⟨b, o + i * 12, none⟩ = some (.int .i64 l[i].join) ∧ w.cell? ⟨b, o + i * 12 + 1, none⟩ = some (.string l[i].table) ∧ w.cell? ⟨b, o + i * 12 + 2, none⟩ = some (.string l[i].short) := by
  obtain ⟨css, h1, h2⟩ := h
  obtain ⟨b, o, cs, hA, hb, hr, _, hc⟩ := h1.at_ h2 (by decide) hi
  obtain ⟨B, k, rfl, hp⟩ := hr
  have hc' : ∀ j u, (Value.int .i64 l[i].join :: .string l[i].table :: .string l[i].short :: exC l[i].on B k)[j]? = some u → w.cell? ⟨b, o + i * 12 + j, none⟩ = some u := fun j u hu => by rw [Nat.add_assoc]; exact hc j u hu
  exact ⟨b, o, B, k, hA, hp, ⟨hb, hc' 3 _ rfl, hc' 4 _ rfl, hc' 5 _ rfl, hc' 6 _ rfl, hc' 7 _ rfl, hc' 8 _ rfl, hc' 9 _ rfl, hc' 10 _ rfl, hc' 11 _ rfl⟩, hc' 0 _ rfl, hc' 1 _ rfl, hc' 2 _ rfl⟩
section
variable {H : Type} {enc : TypeId × Value → H} {W : World}
theorem rd_exs : Rd enc Try.prog W 22 1 (fun (l : List Ex) cs => ∃ A c, cs = [.slice A l.length c] ∧ ExsR (PRow W) A l) :=
  rd_map (rd_slice Try.underlying22 (by kernel_rfl) (by decide) rd_ex) fun l cs ⟨A, c, css, h1, _, h3, h4⟩ => ⟨A, c, h1, css, h3, h4⟩
theorem rd_from : Rd enc Try.prog W 46 12 (fun (x : Fr) cs => FrR (PRow W) x cs) :=
  ⟨by kernel_rfl, fun n cs y hl h => by
    have ri : Rd enc Try.prog W 3 1 (fun (x : Int) cs => cs = [.int .i64 x] ∧ (Lit.int .i64 x).wf = true) := rd_int Try.underlying3 (by kernel_rfl)
    have rs : Rd enc Try.prog W 9 1 (fun (x : ByteArray) cs => cs = [.string x] ∧ x.size ≤ maxLen) := rd_str Try.underlying9 (by kernel_rfl)
    obtain ⟨join, h0, _⟩ := rd_part (i := 0) (o := 0) Try.underlying46 rfl rfl ri (by rw [hl]; decide) h
    obtain ⟨table, h1, _⟩ := rd_part (i := 1) (o := 1) Try.underlying46 rfl rfl rs (by rw [hl]; decide) h
    obtain ⟨short, h2, _⟩ := rd_part (i := 2) (o := 2) Try.underlying46 rfl rfl rs (by rw [hl]; decide) h
    obtain ⟨on, h3⟩ := rd_part (i := 3) (o := 3) Try.underlying46 rfl rfl rd_ex (by rw [hl]; decide) h
    obtain ⟨A, k, h4, h5⟩ := h3.parts
    match cs, hl with
    | a :: b :: c :: rest, hl =>
      have hr : rest.length = 9 := by simpa using hl
      simp at h0 h1 h2
      subst h0 h1 h2
      have h6 : rest = exC on A k := by
        rw [← h4]
        simp [List.take_of_length_le (Nat.le_of_eq hr)]
      exact ⟨⟨join, table, short, on⟩, A, k, by rw [h6], h5⟩⟩
theorem rd_froms : Rd enc Try.prog W 23 1 (fun (l : List Fr) cs => ∃ A c, cs = [.slice A l.length c] ∧ FrsR (PRow W) A l) :=
  rd_map (rd_slice Try.underlying23 (by kernel_rfl) (by decide) rd_from) fun l cs ⟨A, c, css, h1, _, h3, h4⟩ => ⟨A, c, h1, css, h3, h4⟩
theorem rd_query : Rd enc Try.prog W 29 12 (fun (q : Qy) cs => QyR (PRow W) q cs) :=
  ⟨by kernel_rfl, fun n cs y hl h => by
    obtain ⟨items, A, k, h0, r0⟩ := rd_part (i := 0) (o := 0) Try.underlying29 rfl rfl rd_exs (by rw [hl]; decide) h
    obtain ⟨src, B, j, h1, r1⟩ := rd_part (i := 1) (o := 1) Try.underlying29 rfl rfl rd_froms (by rw [hl]; decide) h
    obtain ⟨wh, h2⟩ := rd_part (i := 2) (o := 2) Try.underlying29 rfl rfl rd_ex (by rw [hl]; decide) h
    obtain ⟨group, D, d, h3, r3⟩ := rd_part (i := 3) (o := 11) Try.underlying29 rfl rfl rd_exs (by rw [hl]; decide) h
    obtain ⟨C, c, h4, r2⟩ := h2.parts
    match cs, hl with
    | [a, b, e0, e1, e2, e3, e4, e5, e6, e7, e8, f], _ =>
      simp at h0 h1 h3
      subst h0 h1 h3
      have h6 : [e0, e1, e2, e3, e4, e5, e6, e7, e8] = exC wh C c := by
        rw [← h4]
        rfl
      exact ⟨⟨items, src, wh, group⟩, A, k, B, j, C, c, D, d, by rw [← h6]; rfl, r0, r1, r2, r3⟩⟩
end
end Go.Proofs.Ytoaciliojdaoaaa
