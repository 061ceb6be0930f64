/- Layer 39: six numbers are read. -/
import Derived.Test.YtcokhgomibimcaaAskRel
namespace Go.Proofs.Ytcokhgomibimcaa
open Go.RowKit
attribute [local go_sem] more_cell more_frozen more_more more_setCell more_of_drew more_of_drewN lt_more le_more past_cell past_cell2 past_frozen past_frozen2 past_setCell past_setCell2 mid_cell mid_frozen mid_setCell
attribute [local go_sem ↓] Go.wp_at_zero Go.wp_at_succ

theorem LeftIs.some_low {u w : World} {g : Nat} {l : List Nat} {f : Bool} (h : LeftIs u w g l f) : u.heap.size ≤ g := by
  obtain ⟨A, m, h1, h2, h3, h4, h5⟩ := h
  exact h4
theorem LeftIs.turns {u w w' : World} {g k : Nat} {l : List Nat} {f : Bool} (h : LeftIs u w g l f) (t : Turns w w' k) (hk : g < k) : LeftIs u w' g l f := by
  obtain ⟨A, m, h1, h2, h3, h4, h5⟩ := h
  exact ⟨A, m, h1, h2.turns t (by omega), h3, h4, t.below h5 (by omega)⟩
theorem Turns.high {w w' w'' : World} {g b : Nat} (h : Turns w w' g) (k : Turns w' w'' b) (hb : w.heap.size ≤ b) : Turns w w'' g :=
  ⟨k.os.trans h.os, k.tape.trans h.tape, k.output.trans h.output, Nat.le_trans h.size k.size, fun i hi hn => (k.block i (Nat.lt_of_lt_of_le hi h.size) (by omega)).trans (h.block i hi hn)⟩
def OptT (u w : World) (g : Nat) (o : OptS) (s : St) (e : Ending) (w' : World) : Prop := e = .returned (optsV o) ∧ LeftIs u w' g s.1 s.2 ∧ Turns w w' g
set_option maxRecDepth 100000 in
theorem opts_to (u : World) (g : Nat) (s : St) (hl : s.1.length ≤ 1000000) (hx : bytesOk s.1) (w : World) (hg : LeftIs u w g s.1 s.2) :
    Calls Try.prog 104 #[.pointer (some ⟨g, 0, none⟩)] w (OptT u w g (optS s).1 (optS s).2) := by
  have hgw := hg.lt
  have HN : Hid (∀ t W, Less s t → LeftIs u W g t.1 t.2 → Calls Try.prog 99 #[.pointer (some ⟨g, 0, none⟩)] W (NumT u W g (numS t).1 (numS t).2)) := Lib.hid fun t W h1 h2 => number_to u g t (Nat.le_trans h1.len hl) (h1.ok hx) W h2
  have L0 := Less.refl s
  have L1 := L0.trans (less_num s)
  have L2 := L1.trans (less_num _)
  have L3 := L2.trans (less_num _)
  have L4 := L3.trans (less_num _)
  have L5 := L4.trans (less_num _)
  have HO : Hid (optS s = (⟨(numS s).1, (numS (numS s).2).1, (numS (numS (numS s).2).2).1, (numS (numS (numS (numS s).2).2).2).1, (numS (numS (numS (numS (numS s).2).2).2).2).1, (numS (numS (numS (numS (numS (numS s).2).2).2).2).2).1⟩, (numS (numS (numS (numS (numS (numS s).2).2).2).2).2).2)) := Lib.hid rfl
  have HG := Lib.hid (hg.alloc (.cells #[.int .i64 0, .int .i64 0, .int .i64 0, .int .i64 0, .int .i64 0, .int .i64 0] 37))
  have HB := Lib.hid (Blok.new w 37 #[.int .i64 0, .int .i64 0, .int .i64 0, .int .i64 0, .int .i64 0, .int .i64 0] _ rfl)
  have c1 := HN.out s _ L0 HG.out
  have C2 := Lib.hid (HN.out _ · L1)
  have C3 := Lib.hid (HN.out _ · L2)
  have C4 := Lib.hid (HN.out _ · L3)
  have C5 := Lib.hid (HN.out _ · L4)
  have C6 := Lib.hid (HN.out _ · L5)
  have C1 := Lib.hid c1
  clear hg c1 HN L0 L1 L2 L3 L4 L5
  generalize optS s = r at *
  generalize numS s = n1 at *
  generalize numS n1.2 = n2 at *
  generalize numS n2.2 = n3 at *
  generalize numS n3.2 = n4 at *
  generalize numS n4.2 = n5 at *
  generalize numS n5.2 = n6 at *
  go_enter Try.func104, Try.ntmps104
  go_wp2_with fail
  refine C1.out.mono ?_
  rintro e w1 ⟨rfl, h1, t1⟩
  have H1 := Lib.hid h1
  have T1 := Lib.hid t1
  clear h1 t1
  go_wp2_with fail
  refine (C2.out _ H1.out).mono ?_
  rintro e w2 ⟨rfl, h2, t2⟩
  have H2 := Lib.hid h2
  have T2 := Lib.hid (T1.out.trans t2)
  clear h2 t2
  go_wp2_with fail
  refine (C3.out _ H2.out).mono ?_
  rintro e w3 ⟨rfl, h3, t3⟩
  have H3 := Lib.hid h3
  have T3 := Lib.hid (T2.out.trans t3)
  clear h3 t3
  go_wp2_with fail
  refine (C4.out _ H3.out).mono ?_
  rintro e w4 ⟨rfl, h4, t4⟩
  have H4 := Lib.hid h4
  have T4 := Lib.hid (T3.out.trans t4)
  clear h4 t4
  go_wp2_with fail
  refine (C5.out _ H4.out).mono ?_
  rintro e w5 ⟨rfl, h5, t5⟩
  have H5 := Lib.hid h5
  have T5 := Lib.hid (T4.out.trans t5)
  clear h5 t5
  go_wp2_with fail
  refine (C6.out _ H5.out).mono ?_
  rintro e w6 ⟨rfl, h6, t6⟩
  have H6 := Lib.hid h6
  have T6 := Lib.hid (T5.out.trans t6)
  clear h6 t6
  have B6 := Lib.hid (HB.out.turns T6.out (by omega))
  have d0 := B6.out.cell 0
  have d1 := B6.out.cell 1
  have d2 := B6.out.cell 2
  have d3 := B6.out.cell 3
  have d4 := B6.out.cell 4
  have d5 := B6.out.cell 5
  have z0 := B6.out.thaw 0
  have z1 := B6.out.thaw 1
  have z2 := B6.out.thaw 2
  have z3 := B6.out.thaw 3
  have z4 := B6.out.thaw 4
  have z5 := B6.out.thaw 5
  have hlt := B6.out.lt
  simp at d0 d1 d2 d3 d4 d5
  go_wp2
  rw [HO.out]
  exact bodyPost_ret (v := .agg #[.int .i64 n1.1, .int .i64 n2.1, .int .i64 n3.1, .int .i64 n4.1, .int .i64 n5.1, .int .i64 n6.1]) (by simp [results, Try.results104, go_sem, d0, d1, d2, d3, d4, d5]) rfl
    ⟨rfl, H6.out.turns ((((((Turns.refl _ _).set 0 _).set 1 _).set 2 _).set 3 _).set 4 _ |>.set 5 _) hgw, (((Turns.refl w g).grew ((Grew.refl w).alloc _)).trans T6.out).high ((((((Turns.refl _ _).set 0 _).set 1 _).set 2 _).set 3 _).set 4 _ |>.set 5 _) (Nat.le_refl _)⟩
end Go.Proofs.Ytcokhgomibimcaa
