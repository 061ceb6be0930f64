/- Layer 39: ways to ask, in memory. No condition. -/
import Derived.Test.YtcokhgomibimcaaRel
import Derived.Test.YtcokhgomibimcaaAskMath
import Derived.Test.YtcokhgomibimcaaCode11
namespace Go.Proofs.Ytcokhgomibimcaa
open Go.RowKit

def ColR (Rw : Rw) (c : ColS) (cs : List Value) : Prop := ∃ A k, cs = [.int .i64 c.u, .int .i64 c.n, .slice A c.m.length k] ∧ Rw 3 A (iV c.m)
def ColsR (Rw : Rw) (A : Option Addr) (l : List ColS) : Prop := ∃ css, ListR (ColR Rw) 3 l css ∧ Rw 101 A css.flatten
def StatR (Rw : Rw) (s : StatS) (cs : List Value) : Prop := ∃ A k, cs = [.int .i64 s.rows, .slice A s.cols.length k] ∧ ColsR Rw A s.cols
def StatsR (Rw : Rw) (A : Option Addr) (l : List StatS) : Prop := ∃ css, ListR (StatR Rw) 2 l css ∧ Rw 97 A css.flatten
def optsV (o : OptS) : Value := .agg #[.int .i64 o.o0, .int .i64 o.o1, .int .i64 o.o2, .int .i64 o.o3, .int .i64 o.o4, .int .i64 o.o5]
def AskR (Rw : Rw) (a : AskS) (v : Value) : Prop := ∃ Q j P k, v = .agg #[.slice Q a.stats.length j, .bool a.force, .int .i64 a.o.o0, .int .i64 a.o.o1, .int .i64 a.o.o2, .int .i64 a.o.o3, .int .i64 a.o.o4, .int .i64 a.o.o5, .slice P a.picks.length k] ∧ StatsR Rw Q a.stats ∧ Rw 3 P (iV a.picks)
section
variable {R1 R2 : Rw}
theorem ColR.map {c : ColS} {cs : List Value} (h : ColR R1 c cs) (H : ∀ A xs, R1 3 A xs → R2 3 A xs) : ColR R2 c cs := by
  obtain ⟨A, k, h1, h2⟩ := h
  exact ⟨A, k, h1, H _ _ h2⟩
theorem ColsR.map {A : Option Addr} {l : List ColS} (h : ColsR R1 A l) (H : ∀ e A xs, e = 3 ∨ e = 101 → R1 e A xs → R2 e A xs) : ColsR R2 A l := by
  obtain ⟨css, h1, h2⟩ := h
  exact ⟨css, h1.map (fun x cs hr => hr.map (fun A xs => H _ A xs (Or.inl rfl))), H _ _ _ (Or.inr rfl) h2⟩
theorem StatR.map {s : StatS} {cs : List Value} (h : StatR R1 s cs) (H : ∀ e A xs, e = 3 ∨ e = 101 → R1 e A xs → R2 e A xs) : StatR R2 s cs := by
  obtain ⟨A, k, h1, h2⟩ := h
  exact ⟨A, k, h1, h2.map H⟩
theorem StatsR.map {A : Option Addr} {l : List StatS} (h : StatsR R1 A l) (H : ∀ e A xs, R1 e A xs → R2 e A xs) : StatsR R2 A l := by
  obtain ⟨css, h1, h2⟩ := h
  exact ⟨css, h1.map (fun x cs hr => hr.map (fun e A xs _ => H e A xs)), H _ _ _ h2⟩
theorem AskR.map {a : AskS} {v : Value} (h : AskR R1 a v) (H : ∀ e A xs, R1 e A xs → R2 e A xs) : AskR R2 a v := by
  obtain ⟨Q, j, P, k, h1, h2, h3⟩ := h
  exact ⟨Q, j, P, k, h1, h2.map H, H _ _ _ h3⟩
end
theorem AskR.grew {w w' : World} {a : AskS} {v : Value} (h : AskR (PRow w) a v) (g : Grew w w') : AskR (PRow w') a v := h.map fun _ _ _ h => Row.grew h g
theorem infoC : (Try.prog.info? 101).map (fun i => (i.zero, i.size, i.bytes)) = some (some (.agg #[.int .i64 0, .int .i64 0, .slice none 0 0]), 3, 40) := by kernel_rfl
theorem infoT : (Try.prog.info? 97).map (fun i => (i.zero, i.size, i.bytes)) = some (some (.agg #[.int .i64 0, .slice none 0 0]), 2, 32) := by kernel_rfl
theorem colR_one {Rw : Rw} {c : ColS} {cs : List Value} (h : ColR Rw c cs) : ∀ u ∈ cs, u.oneCell' = true := by
  obtain ⟨A, k, rfl, _⟩ := h
  intro u hu
  simp at hu
  rcases hu with rfl | rfl | rfl <;> rfl
theorem statR_one {Rw : Rw} {c : StatS} {cs : List Value} (h : StatR Rw c cs) : ∀ u ∈ cs, u.oneCell' = true := by
  obtain ⟨A, k, rfl, _⟩ := h
  intro u hu
  simp at hu
  rcases hu with rfl | rfl <;> rfl
end Go.Proofs.Ytcokhgomibimcaa
