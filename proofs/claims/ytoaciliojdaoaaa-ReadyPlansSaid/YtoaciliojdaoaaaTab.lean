/- Tables, as they lie in memory, and as they come in. No condition. -/
import Derived.Test.YtoaciliojdaoaaaReadW
namespace Go.Proofs.Ytoaciliojdaoaaa
open Go.RowKit Go.ChangeShapes Go.WideShapes Go.ChangeAt

/-- A value; a column; a table. -/
structure Vl where
  k : Int
  i : Int
  s : ByteArray
instance vl_some : Inhabited Vl := ⟨⟨0, 0, ByteArray.empty⟩⟩
structure Cl where
  name : ByteArray
  kind : Int
instance cl_some : Inhabited Cl := ⟨⟨ByteArray.empty, 0⟩⟩
structure Tb where
  name : ByteArray
  cols : List Cl
  rows : List (List Vl)
instance tb_some : Inhabited Tb := ⟨⟨ByteArray.empty, [], []⟩⟩
def VlR (x : Vl) (cs : List Value) : Prop := cs = [.int .i64 x.k, .int .i64 x.i, .string x.s]
def VlsR (R : Rw) (A : Option Addr) (l : List Vl) : Prop := ∃ css, ListR VlR 3 l css ∧ R 25 A css.flatten
def RwR (R : Rw) (x : List Vl) (cs : List Value) : Prop := ∃ A k, cs = [.slice A x.length k] ∧ x.length ≤ k ∧ VlsR R A x
def ClR (x : Cl) (cs : List Value) : Prop := cs = [.string x.name, .int .i64 x.kind]
/-- No part takes more than the reach, and numbers are numbers. -/
def VlOk (x : Vl) : Prop := (Lit.int .i64 x.k).wf = true ∧ (Lit.int .i64 x.i).wf = true ∧ x.s.size ≤ 140737488355328
def RwOk (x : List Vl) : Prop := x.length ≤ 140737488355328 ∧ ∀ v ∈ x, VlOk v
def RwsOk (x : List (List Vl)) : Prop := x.length ≤ 140737488355328 ∧ ∀ v ∈ x, RwOk v
def ClOk (x : Cl) : Prop := x.name.size ≤ 140737488355328 ∧ (Lit.int .i64 x.kind).wf = true
def ClsOk (x : List Cl) : Prop := x.length ≤ 140737488355328 ∧ ∀ v ∈ x, ClOk v
def TbOk (x : Tb) : Prop := x.name.size ≤ 140737488355328 ∧ ClsOk x.cols ∧ RwsOk x.rows
def TbsOk (x : List Tb) : Prop := x.length ≤ 140737488355328 ∧ ∀ v ∈ x, TbOk v
theorem TRow.grewR {B : Nat} {w w' : World} {e : TypeId} {A : Option Addr} {xs : List Value} (h : TRow B w e A xs) (g : Grew w w') : TRow B w' e A xs := h.grew g
section
variable {R R' : Rw} (H : ∀ e A xs, R e A xs → R' e A xs)
include H
theorem VlsR.imp {A : Option Addr} {l : List Vl} (h : VlsR R A l) : VlsR R' A l := by
  obtain ⟨css, h1, h2⟩ := h
  exact ⟨css, h1, H _ _ _ h2⟩
theorem RwR.imp {x : List Vl} {cs : List Value} (h : RwR R x cs) : RwR R' x cs := by
  obtain ⟨A, k, e, hk, hx⟩ := h
  exact ⟨A, k, e, hk, hx.imp H⟩
end
section
variable {w w' : World} (g : Grew w w')
include g
theorem VlsR.grew {A : Option Addr} {l : List Vl} (h : VlsR (PRow w) A l) : VlsR (PRow w') A l := h.imp fun _ _ _ hx => Row.grew hx g
end
/-- One of them, in memory. -/
theorem vlsR_at {w : World} {A : Option Addr} {l : List Vl} (h : VlsR (PRow w) A l) {i : Nat} (hi : i < l.length) :
    ∃ b o, A = some ⟨b, o, none⟩ ∧ b < w.heap.size ∧ w.cell? ⟨b, o + i * 3, none⟩ = some (.int .i64 l[i].k) ∧ w.cell? ⟨b, o + i * 3 + 1, none⟩ = some (.int .i64 l[i].i) ∧ w.cell? ⟨b, o + i * 3 + 2, none⟩ = some (.string l[i].s) := by
  obtain ⟨css, h1, h2⟩ := h
  obtain ⟨b, o, cs, hA, hb, hr, _, hc⟩ := h1.at_ h2 (by decide) hi
  unfold VlR at hr
  subst hr
  exact ⟨b, o, hA, hb, hc 0 _ rfl, hc 1 _ rfl, hc 2 _ rfl⟩
structure AtTb (w : World) (b o : Nat) (x : Tb) (A : Option Addr) (k : Nat) (B : Option Addr) (j : Nat) : Prop where
  lt : b < w.heap.size
  a0 : w.cell? ⟨b, o, none⟩ = some (.string x.name)
  a1 : w.cell? ⟨b, o + 1, none⟩ = some (.slice A x.cols.length k)
  a2 : w.cell? ⟨b, o + 2, none⟩ = some (.slice B x.rows.length j)
theorem reach_small : reachBytes ≤ 140737488355328 := by decide
theorem cap_small {l c bytes : Nat} (hl : l ≤ c) (hb : 0 < bytes) (h : c * bytes ≤ reachBytes) : l ≤ 140737488355328 := by
  have h1 : c * 1 ≤ c * bytes := Nat.mul_le_mul_left c hb
  have := reach_small
  omega
theorem str_small {H : Type} {P : Program} {t : TypeId} {s : ByteArray} (h : ((DataW.lit (Lit.string s.data.toList) : DataW H).weights P t).all (· ≤ reachBytes) = true) : s.size ≤ 140737488355328 := by
  simp only [DataW.weights, List.all_cons, List.all_nil, Bool.and_true, decide_eq_true_eq] at h
  have := reach_small
  have e : s.data.toList.length = s.size := by simp
  omega
section
variable {H : Type} {enc : TypeId × Value → H} {W : World}
theorem rdw_iT : RdW enc Try.prog W 3 1 (fun (x : Int) cs => cs = [.int .i64 x] ∧ (Lit.int .i64 x).wf = true) := rdw_of (rd_int Try.underlying3 (by kernel_rfl))
theorem rdw_sT : RdW enc Try.prog W 9 1 (fun (x : ByteArray) cs => cs = [.string x] ∧ x.size ≤ reachBytes) := rdw_str Try.underlying9 (by kernel_rfl)
theorem rdw_vl : RdW enc Try.prog W 25 3 (fun (x : Vl) cs => VlR x cs ∧ VlOk x) :=
  ⟨by kernel_rfl, fun n cs y hl h ho => by
    obtain ⟨a0, h0, w0⟩ := rdw_part (i := 0) (o := 0) Try.underlying25 rfl rfl rdw_iT (by rw [hl]; decide) h ho
    obtain ⟨a1, h1, w1⟩ := rdw_part (i := 1) (o := 1) Try.underlying25 rfl rfl rdw_iT (by rw [hl]; decide) h ho
    obtain ⟨a2, h2, w2⟩ := rdw_part (i := 2) (o := 2) Try.underlying25 rfl rfl rdw_sT (by rw [hl]; decide) h ho
    match cs, hl with
    | [b0, b1, b2], _ =>
      simp at h0 h1 h2
      subst h0 h1 h2
      exact ⟨⟨a0, a1, a2⟩, rfl, w0, w1, Nat.le_trans w2 reach_small⟩⟩
end
end Go.Proofs.Ytoaciliojdaoaaa
