/- Layer 6: all classes, as the program makes them. No condition but that the classes lie in memory as they are made. -/
import Derived.Test.YtoaciliojdaoaaaUfAll
import Derived.Test.YtoaciliojdaoaaaHead
import Derived.Deep.DeepCutAuto
namespace Go.Proofs.Ytoaciliojdaoaaa
open Go.RowKit
attribute [local go_sem] more_cell more_frozen more_more more_setCell more_of_drew more_of_drewN lt_more le_more past_cell past_cell2 past_frozen past_frozen2 past_setCell past_setCell2 mid_cell mid_frozen mid_setCell
attribute [local go_sem ↓] Go.wp_at_zero Go.wp_at_succ

theorem findI_in {k : Nat} {R : Nat → Nat} {a : Nat} (ha : a < k) : findI k R a = (R a : Nat) := by
  unfold findI
  rw [if_pos (by omega), Int.toNat_natCast]
theorem wpList_make_cap {P : Program} (w : World) {ops : Array Oper} {rest : List Oper} {o : Oper} {a : Act} {Q : Exit → Act → World → Prop}
    (hg : o.guard = none) (l c : Operand) (t : TypeId) (hop : o.op = Op.makeSlice t l c)
    (e : TypeId) (i : TypeInfo) (z : Value) (ht : P.underlying t = some (.slice e)) (hi : P.info? e = some i) (hz : i.zero = some z) (hsize : i.size = 1) (hz1 : z.cells = #[z])
    (kl kc : IntKind) (n : Nat) (hl : a.eval l = .int kl 0) (hc : a.eval c = .int kc (n : Int)) (hbytes : i.bytes * n ≤ 281474976710656) (h63 : n ≤ 9223372036854775807)
    (hK : wpList P ops Q rest (a.put o.dst (.slice (some ⟨w.heap.size, 0, none⟩) 0 n)) (w.alloc (.cells (madeCells #[z] n) e))) :
    wpList P ops Q (o :: rest) a w := by
  refine wpList_plain hg fun K hK' => ?_
  have hb' : (i.bytes : Int) * (n : Int) ≤ 281474976710656 := by
    have h : ((i.bytes * n : Nat) : Int) ≤ 281474976710656 := by omega
    rwa [Int.natCast_mul] at h
  have hrun := run_make (P := P) w t e i z ht hi hz kl kc 0 n (Int.le_refl _) (by omega) hb' (by omega)
  simp only [Int.toNat_zero, Int.toNat_natCast, hsize, Nat.mul_one, hz1] at hrun
  unfold Oper.wp
  simp [execOp, hop, hl, hc, hrun, Result.andThen]
  exact hK' _ _ hK
theorem Keep2.turns {w w' w'' : World} {g h b : Nat} (a : Keep2 w w' g h) (t : Turns w' w'' b) (hb : w.heap.size ≤ b) : Keep2 w w'' g h :=
  ⟨t.os.trans a.os, t.tape.trans a.tape, t.output.trans a.output, Nat.le_trans a.size t.size, fun k hk n1 n2 => (t.block k (Nat.lt_of_lt_of_le hk a.size) (by omega)).trans (a.block k hk n1 n2)⟩
theorem Keep2.far {w w' : World} {g h : Nat} (a : Keep2 w w' g h) {b i : Nat} (hb : w.heap.size ≤ b) (v : Value) : Keep2 w (w'.setCell ⟨b, i, none⟩ v) g h := a.turns ((Turns.refl w' b).set i v) hb
theorem Keep2.grown {w w' w'' : World} {g h : Nat} {row : Option Nat} (a : Keep2 w w' g h) (k : w'.grownBy w'' row) (hr : ∀ i, row = some i → w.heap.size ≤ i) : Keep2 w w'' g h :=
  ⟨k.os.trans a.os, k.tape.trans a.tape, k.output.trans a.output, Nat.le_trans a.size k.size, fun i hi n1 n2 => by
    rw [k.block i (Nat.lt_of_lt_of_le hi a.size) (fun e => by have := hr i e.symm; omega)]
    exact a.block i hi n1 n2⟩
theorem Keep2.on {w w' w'' : World} {g h : Nat} (a : Keep2 w w' g h) (k : Grew w' w'') : Keep2 w w'' g h := by
  obtain ⟨x, rfl⟩ := k
  exact a.more x
theorem Blok.keep {w w' : World} {g h b : Nat} {t : TypeId} {cs : Array Value} (hb : Blok w b t cs) (k : Keep2 w w' g h) (h1 : b ≠ g) (h2 : b ≠ h) : Blok w' b t cs := by
  have hl := hb.lt
  unfold Blok at *
  rw [k.block b hl h1 h2]
  exact hb
theorem UfS.far {u w : World} {g h n : Nat} {r : Nat → Nat} (s : UfS u g h n r w) {b i : Nat} (h1 : u.heap.size ≤ b) (h2 : b ≠ g) (h3 : b ≠ h) (v : Value) : UfS u g h n r (w.setCell ⟨b, i, none⟩ v) := by
  obtain ⟨f, a, hl⟩ := s.lies
  exact ⟨s.grew.setCell h1 v, s.gu, s.hu, s.least, f, ⟨a.top.far (p := ⟨b, i, none⟩) (fun e => h2 e.symm) v, a.row.far (p := ⟨b, i, none⟩) (fun e => h3 e.symm) v, a.ne, a.small⟩, hl⟩
theorem UfS.grown {u w w' : World} {g h n : Nat} {r : Nat → Nat} {row : Option Nat} (s : UfS u g h n r w) (k : w.grownBy w' row) (hr : ∀ i, row = some i → u.heap.size ≤ i ∧ i ≠ g ∧ i ≠ h) : UfS u g h n r w' := by
  obtain ⟨f, a, hl⟩ := s.lies
  exact ⟨s.grew.grown k fun i hi => (hr i hi).1, s.gu, s.hu, s.least, f, ⟨a.top.grown k fun e => (hr g e).2.1 rfl, a.row.grown k fun e => (hr h e).2.2 rfl, a.ne, a.small⟩, hl⟩
theorem own_grewU {w w' : World} {base : Nat} {e : TypeId} {size n : Nat} {v : Value} {xs : List Value} (h : w.ownsRow base e size v n xs) (g : Grew w w') : w'.ownsRow base e size v n xs := by
  obtain ⟨x, rfl⟩ := g
  exact own_more h x
/-- While the classes are made. -/
structure AllS (u w : World) (g h n : Nat) (r : Nat → Nat) (m : Nat) (pf : Nat → Nat) (A : Option Addr) (cap : Nat) (vs : List Value) (L : List (List Nat)) (wr : World) : Prop where
  nest : Nest wr w.heap.size (w.heap.size + 2) A cap vs L
  place : Blok wr (w.heap.size + 1) 3 (numsV n pf)
  tells : ∀ q, q < m → r q = q → pf q = rootsN q r
  cls : UfS u g h n r wr
  keep : Keep2 w wr g h
def UfAllAt (u w : World) (g h n : Nat) (r : Nat → Nat) (v i : Value) (wr : World) : Prop :=
  ∃ (m : Nat) (A : Option Addr) (cap : Nat) (vs : List Value) (pf : Nat → Nat), m ≤ n ∧ i = .int .i64 m ∧ v = .slice A (clsM m r).length cap ∧ AllS u w g h n r m pf A cap vs (clsM m r) wr
def UfMid (u w : World) (g h n : Nat) (r : Nat → Nat) (m p : Nat) (v : Value) (wr : World) : Prop :=
  ∃ (A : Option Addr) (cap : Nat) (vs : List Value) (pf : Nat → Nat) (L : List (List Nat)) (l : List Nat), v = .slice A L.length cap ∧ AllS u w g h n r (m + 1) pf A cap vs L wr ∧ L[pf p]? = some l ∧ L.set (pf p) (l ++ [m]) = clsM (m + 1) r ∧ L.length ≤ 65536 ∧ l.length ≤ 65536
/-- What is left: the classes, and lists of numbers. -/
def UfAllF (u w : World) (g h n : Nat) (r : Nat → Nat) (e : Ending) (w' : World) : Prop := ∃ A k, e = .returned (.slice A (clsM n r).length k) ∧ NestR w' A (clsM n r) ∧ UfS u g h n r w' ∧ Keep2 w w' g h
end Go.Proofs.Ytoaciliojdaoaaa
