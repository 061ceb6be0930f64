/- Tables, as they lie in memory, and as they come in. No condition. -/
import Derived.Test.YtpdkacfhnmfmaaaReadW
namespace Go.Proofs.Ytpdkacfhnmfmaaa
open Go.RowKit Go.ChangeShapes Go.WideShapes Go.ChangeAt

/-- A value; a column; a table. -/
structure Vl where
  k : Int
  i : Int
  s : ByteArray
instance vl_some : Inhabited Vl := ⟨⟨0, 0, ByteArray.empty⟩⟩
structure Cl where
  name : ByteArray
  kind : Int
instance cl_some : Inhabited Cl := ⟨⟨ByteArray.empty, 0⟩⟩
structure Tb where
  name : ByteArray
  cols : List Cl
  rows : List (List Vl)
instance tb_some : Inhabited Tb := ⟨⟨ByteArray.empty, [], []⟩⟩
def VlR (x : Vl) (cs : List Value) : Prop := cs = [.int .i64 x.k, .int .i64 x.i, .string x.s]
def ClR (x : Cl) (cs : List Value) : Prop := cs = [.string x.name, .int .i64 x.kind]
/-- No part takes more than the reach, and numbers are numbers. -/
def VlOk (x : Vl) : Prop := (Lit.int .i64 x.k).wf = true ∧ (Lit.int .i64 x.i).wf = true ∧ x.s.size ≤ 140737488355328
def RwOk (x : List Vl) : Prop := x.length ≤ 140737488355328 ∧ ∀ v ∈ x, VlOk v
def RwsOk (x : List (List Vl)) : Prop := x.length ≤ 140737488355328 ∧ ∀ v ∈ x, RwOk v
def ClOk (x : Cl) : Prop := x.name.size ≤ 140737488355328 ∧ (Lit.int .i64 x.kind).wf = true
def ClsOk (x : List Cl) : Prop := x.length ≤ 140737488355328 ∧ ∀ v ∈ x, ClOk v
def TbOk (x : Tb) : Prop := x.name.size ≤ 140737488355328 ∧ ClsOk x.cols ∧ RwsOk x.rows
def TbsOk (x : List Tb) : Prop := x.length ≤ 140737488355328 ∧ ∀ v ∈ x, TbOk v
theorem TRow.grewR {B : Nat} {w w' : World} {e : TypeId} {A : Option Addr} {xs : List Value} (h : TRow B w e A xs) (g : Grew w w') : TRow B w' e A xs := h.grew g
section
variable {R R' : Rw} (H : ∀ e A xs, R e A xs → R' e A xs)
include H
end
section
variable {w w' : World} (g : Grew w w')
include g
end
structure AtTb (w : World) (b o : Nat) (x : Tb) (A : Option Addr) (k : Nat) (B : Option Addr) (j : Nat) : Prop where
  lt : b < w.heap.size
  a0 : w.cell? ⟨b, o, none⟩ = some (.string x.name)
  a1 : w.cell? ⟨b, o + 1, none⟩ = some (.slice A x.cols.length k)
  a2 : w.cell? ⟨b, o + 2, none⟩ = some (.slice B x.rows.length j)
theorem reach_small : reachBytes ≤ 140737488355328 := by decide
theorem cap_small {l c bytes : Nat} (hl : l ≤ c) (hb : 0 < bytes) (h : c * bytes ≤ reachBytes) : l ≤ 140737488355328 := by
  have h1 : c * 1 ≤ c * bytes := Nat.mul_le_mul_left c hb
  have := reach_small
  omega
theorem str_small {H : Type} {P : Program} {t : TypeId} {s : ByteArray} (h : ((DataW.lit (Lit.string s.data.toList) : DataW H).weights P t).all (· ≤ reachBytes) = true) : s.size ≤ 140737488355328 := by
  simp only [DataW.weights, List.all_cons, List.all_nil, Bool.and_true, decide_eq_true_eq] at h
  have := reach_small
  have e : s.data.toList.length = s.size := by simp
  omega
section
variable {H : Type} {enc : TypeId × Value → H} {W : World}
theorem rdw_iT : RdW enc Try.prog W 3 1 (fun (x : Int) cs => cs = [.int .i64 x] ∧ (Lit.int .i64 x).wf = true) := rdw_of (rd_int Try.underlying3 (by kernel_rfl))
theorem rdw_sT : RdW enc Try.prog W 9 1 (fun (x : ByteArray) cs => cs = [.string x] ∧ x.size ≤ reachBytes) := rdw_str Try.underlying9 (by kernel_rfl)
end
end Go.Proofs.Ytpdkacfhnmfmaaa
