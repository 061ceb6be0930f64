/- The statement GraphOfsSaid: for every input the law returns true, and each argument reads as it did. No condition beyond the row's own. -/
import Derived.Test.YtchogpdfdpbpfaaQGa
import Derived.Test.YtchogpdfdpbpfaaQGb
import Derived.Deep.DeepCutAuto
import Derived.WalkMore
import Derived.Test.YtchogpdfdpbpfaaQGc
import Derived.Test.YtchogpdfdpbpfaaQuery
import Derived.Test.YtchogpdfdpbpfaaFrame2

/- Layer 21: a query's hypergraph, by the document. Condition: edges that lie in memory that is there, no more than a thousand. -/
namespace Go.Proofs.Ytchogpdfdpbpfaa
open Go.RowKit
attribute [local go_sem] more_cell more_frozen more_more more_setCell more_of_drew more_of_drewN lt_more le_more past_cell past_cell2 past_frozen past_frozen2 past_setCell past_setCell2 mid_cell mid_frozen mid_setCell
attribute [local go_sem ↓] Go.wp_at_zero Go.wp_at_succ

theorem columnI_lt (t c : Int) : columnI t c = -1 ∨ (0 ≤ columnI t c ∧ columnI t c < 128) := by
  unfold columnI
  split
  · right; omega
  · left; rfl
/-- The classes of one table's columns, edge by edge. -/
def vtxA (R : Nat → Nat) (t : Int) (e : Ed) : List Int := if e.a = t ∧ 0 ≤ columnI t e.ac then [((R (columnI t e.ac).toNat : Nat) : Int)] else []
def vtxB (R : Nat → Nat) (t : Int) (e : Ed) : List Int := if e.b = t ∧ 0 ≤ columnI t e.bc then [((R (columnI t e.bc).toNat : Nat) : Int)] else []
def vtxs (R : Nat → Nat) (t : Int) (l : List Ed) : List Int := (l.map fun e => vtxA R t e ++ vtxB R t e).flatten
def graphG (R : Nat → Nat) (n : Nat) (l : List Ed) : List (List Int) := (List.range n).map fun t : Nat => setI (vtxs R t l)
theorem vtxs_take (R : Nat → Nat) (t : Int) (l : List Ed) {i : Nat} (h : i < l.length) : vtxs R t (l.take (i + 1)) = vtxs R t (l.take i) ++ vtxA R t l[i] ++ vtxB R t l[i] := by
  unfold vtxs
  rw [List.take_succ_eq_append_getElem h, List.map_append, List.flatten_append, List.append_assoc]
  simp
theorem vtxs_len (R : Nat → Nat) (t : Int) (l : List Ed) : (vtxs R t l).length ≤ 2 * l.length := by
  unfold vtxs
  induction l with
  | nil => simp
  | cons e l ih =>
    rw [List.map_cons, List.flatten_cons, List.length_append, List.length_append, List.length_cons]
    have h1 : (vtxA R t e).length ≤ 1 := by unfold vtxA; split <;> simp
    have h2 : (vtxB R t e).length ≤ 1 := by unfold vtxB; split <;> simp
    omega
theorem clsE_le (l : List Ed) : Least 128 (clsE l) := by
  have : ∀ (l : List Ed) (r : Nat → Nat), Least 128 r → Least 128 (l.foldl (fun r e => joinI 128 r (columnI e.a e.ac) (columnI e.b e.bc)) r) := by
    intro l
    induction l with
    | nil => intro r h; exact h
    | cons e l ih => intro r h; exact ih _ (h.joinI _ _)
  exact this l id ⟨fun i _ => Nat.le_refl i, fun _ _ => rfl⟩
def RcAt (u : World) (l : List Ed) (v i : Value) (wr : World) : Prop :=
  ∃ (q : Nat) (A : Option Addr) (c : Nat), q ≤ l.length ∧ i = .int .i64 q ∧ v = .slice A 128 c ∧ Grew u wr ∧ Row wr A (numsL 128 (clsE (l.take q)))
def RoAt (u : World) (R : Nat → Nat) (n : Nat) (l : List Ed) (v i : Value) (wr : World) : Prop :=
  ∃ (t : Nat) (A : Option Addr) (c : Nat) (css : List (List Value)), t ≤ n ∧ i = .int .i64 t ∧ v = .slice A t c ∧ GatG u u.heap.size (graphG R t l) A c css wr
def RiAt (u w : World) (R : Nat → Nat) (t : Nat) (l : List Ed) (v i : Value) (wr : World) : Prop :=
  ∃ (q : Nat) (A : Option Addr) (k : Nat), q ≤ l.length ∧ i = .int .i64 q ∧ v = .slice A (setI (vtxs R t (l.take q))).length k ∧ (setI (vtxs R t (l.take q))).length ≤ k ∧ TRow u.heap.size wr 3 A (iV (setI (vtxs R t (l.take q)))) ∧ Grew w wr
theorem graphG_len (R : Nat → Nat) (n : Nat) (l : List Ed) : (graphG R n l).length = n := by simp [graphG]
theorem graphG_succ (R : Nat → Nat) (n : Nat) (l : List Ed) : graphG R (n + 1) l = graphG R n l ++ [setI (vtxs R n l)] := by
  unfold graphG
  rw [List.range_succ, List.map_append]
  rfl
set_option maxHeartbeats 16000000 in
set_option maxRecDepth 100000 in
theorem rgraph_any (core : Int) (l : List Ed) (A : Option Addr) (n k : Nat) (B : Option Addr) (j : Nat) (C : Option Addr) (p c : Nat) (D : Option Addr) (dn d : Nat) (E : Option Addr) (q e : Nat) (w : World)
    (h2 : EdsR (PRow w) B l) (he : l.length ≤ 3000) (hn : n ≤ 1000) :
    Calls Try.prog 33 #[.agg (nqC core A n k B l.length j C p c D dn d E q e)] w (GridF w (graphG (clsE l) n l)) := by
  have H2 := Lib.hid h2
  have HNew : Hid (∀ W, Calls Try.prog 22 #[.int .i64 128] W (Nums W none 128 id)) := Lib.hid fun W => rnew_any 128 (by omega) W
  have HJoin : Hid (∀ (x y : Int) (r : Nat → Nat) (R : Option Addr) (cr : Nat) (W : World), Row W R (numsL 128 r) → Calls Try.prog 23 #[.slice R 128 cr, .int .i64 x, .int .i64 y] W (Nums W R 128 (joinI 128 r x y))) := Lib.hid fun x y r R cr W hW => rjoin_any x y 128 cr r R W (by omega) hW
  obtain ⟨Rf, hRf⟩ : ∃ R, clsE l = R := ⟨_, rfl⟩
  have HLe : Hid (Least 128 Rf) := Lib.hid (by rw [← hRf]; exact clsE_le l)
  rw [hRf]
  have HRf := Lib.hid hRf
  clear h2 hRf
  unfold nqC
  go_enter Try.func33, Try.ntmps33
  go_upto_region 1 with fail
  have HB : Hid (Blok (w.alloc (.cells #[.int .i64 core, .slice A n k, .slice B l.length j, .slice C p c, .slice D dn d, .slice E q e] 44)) w.heap.size 44 #[.int .i64 core, .slice A n k, .slice B l.length j, .slice C p c, .slice D dn d, .slice E q e]) := Lib.hid (Blok.new _ _ _ _ rfl)
  have HG0 : Hid (Grew w (w.alloc (.cells #[.int .i64 core, .slice A n k, .slice B l.length j, .slice C p c, .slice D dn d, .slice E q e] 44))) := Lib.hid ((Grew.refl w).alloc _)
  generalize (w.alloc (.cells #[.int .i64 core, .slice A n k, .slice B l.length j, .slice C p c, .slice D dn d, .slice E q e] 44)) = W1 at *
  obtain ⟨bq, hbq⟩ : ∃ b, w.heap.size = b := ⟨_, rfl⟩
  rw [hbq] at HB ⊢
  clear hbq
  go_upto_region 2 with (go_at_call 22; (with_reducible refine (HNew.out _).mono ?_); rintro e2 w2 ⟨R0, c0, rfl, hg2, hr2, _⟩)
  have HG2 := Lib.hid hg2
  have HR2 := Lib.hid hr2
  clear hg2 hr2 HNew
  go_wp2_with fail
  go_loopw [3, 4] (fun v i wr => RcAt W1 l v i wr) (fun _ i _ => l.length - (intOf i).toNat)
  case atStart => exact ⟨0, R0, c0, Nat.zero_le _, rfl, rfl, HG2.out, by rw [List.take_zero]; exact HR2.out⟩
  case round =>
    obtain ⟨i, R1, c1, hi, rfl, rfl, hg, hr⟩ := hrel
    have HG := Lib.hid hg
    have HR := Lib.hid hr
    obtain ⟨xl, x0, x1, x2, x3, x4, x5⟩ := nm_in (HB.out.grew hg)
    clear hr
    by_cases hlt : i < l.length
    · have HT := Lib.hid (clsE_take l i hlt)
      obtain ⟨b, o, rfl, hb0, a0, a1, a2, a3⟩ := edsR_at ((H2.out.grew HG0.out).grew hg) hlt
      clear hg
      generalize l[i] = y at *
      generalize clsE (l.take i) = r at *
      go_upto_region 6 with fail
      have HBe : Hid (Blok (wr.alloc (.cells #[.int .i64 y.a, .int .i64 y.ac, .int .i64 y.b, .int .i64 y.bc] 34)) wr.heap.size 34 #[.int .i64 y.a, .int .i64 y.ac, .int .i64 y.b, .int .i64 y.bc]) := Lib.hid (Blok.new _ _ _ _ rfl)
      have HGe : Hid (Grew wr (wr.alloc (.cells #[.int .i64 y.a, .int .i64 y.ac, .int .i64 y.b, .int .i64 y.bc] 34))) := Lib.hid ((Grew.refl wr).alloc _)
      clear hb0 a0 a1 a2 a3 xl x0 x1 x2 x3 x4 x5
      generalize (wr.alloc (.cells #[.int .i64 y.a, .int .i64 y.ac, .int .i64 y.b, .int .i64 y.bc] 34)) = W4 at *
      generalize wr.heap.size = be at *
      have HC1 : Hid (∀ W, Gives Try.prog 24 #[.int .i64 y.a, .int .i64 y.ac] W (.int .i64 (columnI y.a y.ac))) := Lib.hid fun W => rcolumn_any _ _ W
      have HC2 : Hid (∀ W, Gives Try.prog 24 #[.int .i64 y.b, .int .i64 y.bc] W (.int .i64 (columnI y.b y.bc))) := Lib.hid fun W => rcolumn_any _ _ W
      have HJ := Lib.hid (HJoin.out (columnI y.a y.ac) (columnI y.b y.bc) r R1 c1)
      generalize joinI 128 r (columnI y.a y.ac) (columnI y.b y.bc) = r' at *
      generalize columnI y.a y.ac = v1 at *
      generalize columnI y.b y.bc = v2 at *
      have hS0 : Grew W4 W4.drew := (Grew.refl W4).drew
      refine wp_region_S (fun W => Grew W4 W) (by kernel_rfl) ?_
      refine held_take 0 (v := ?_) rfl (by kernel_rfl) (by kernel_rfl) (by kernel_rfl) (fun _ _ _ h => h) (by rfl) ?_ hS0 ?_
      rotate_left
      · (intro W hW; obtain ⟨r0, d0, d1, d2, d3, _, _, _, _⟩ := ed_in (HBe.out.grew hW); go_simp; with_reducible rfl)
      refine held_take 1 (v := ?_) rfl (by kernel_rfl) (by kernel_rfl) (by kernel_rfl) (fun _ _ _ h => h) (by rfl) ?_ hS0 ?_
      rotate_left
      · (intro W hW; obtain ⟨r0, d0, d1, d2, d3, _, _, _, _⟩ := ed_in (HBe.out.grew hW); go_simp; with_reducible rfl)
      refine held_take 2 (v := ?_) rfl (by kernel_rfl) (by kernel_rfl) (by kernel_rfl) (fun _ _ _ h => h) (by rfl) ?_ hS0 ?_
      rotate_left
      · (intro W hW; obtain ⟨r0, d0, d1, d2, d3, _, _, _, _⟩ := ed_in (HBe.out.grew hW); go_simp; with_reducible rfl)
      refine held_take 3 (v := ?_) rfl (by kernel_rfl) (by kernel_rfl) (by kernel_rfl) (fun _ _ _ h => h) (by rfl) ?_ hS0 ?_
      rotate_left
      · (intro W hW; obtain ⟨r0, d0, d1, d2, d3, _, _, _, _⟩ := ed_in (HBe.out.grew hW); go_simp; with_reducible rfl)
      refine held_take 4 (v := ?_) rfl (by kernel_rfl) (by kernel_rfl) (by kernel_rfl) (fun _ _ _ h => h) (by rfl) ?_ hS0 ?_
      rotate_left
      · (intro W hW; obtain ⟨r0, d0, d1, d2, d3, _, _, _, _⟩ := ed_in (HBe.out.grew hW); go_simp; with_reducible rfl)
      refine held_take 6 (v := ?_) rfl (by kernel_rfl) (by kernel_rfl) (by kernel_rfl) (fun _ _ _ h => h) (by rfl) ?_ hS0 ?_
      rotate_left
      · (intro W hW; obtain ⟨r0, d0, d1, d2, d3, _, _, _, _⟩ := ed_in (HBe.out.grew hW); go_simp; with_reducible rfl)
      refine held_take 7 (v := ?_) rfl (by kernel_rfl) (by kernel_rfl) (by kernel_rfl) (fun _ _ _ h => h) (by rfl) ?_ hS0 ?_
      rotate_left
      · (intro W hW; obtain ⟨r0, d0, d1, d2, d3, _, _, _, _⟩ := ed_in (HBe.out.grew hW); go_simp; with_reducible rfl)
      refine held_take 8 (v := ?_) rfl (by kernel_rfl) (by kernel_rfl) (by kernel_rfl) (fun _ _ _ h => h) (by rfl) ?_ hS0 ?_
      rotate_left
      · (intro W hW; obtain ⟨r0, d0, d1, d2, d3, _, _, _, _⟩ := ed_in (HBe.out.grew hW); go_simp; with_reducible rfl)
      refine held_take 9 (v := ?_) rfl (by kernel_rfl) (by kernel_rfl) (by kernel_rfl) (fun _ _ _ h => h) (by rfl) ?_ hS0 ?_
      rotate_left
      · (intro W hW; obtain ⟨r0, d0, d1, d2, d3, _, _, _, _⟩ := ed_in (HBe.out.grew hW); go_simp; with_reducible rfl)
      refine held_norm (a' := ?_) ?_ ?_
      rotate_left
      · (go_simp; with_reducible rfl)
      refine held_call 5 (by kernel_rfl) rfl (by rfl) (fun K hK => ?_)
      go_simp
      go_wp2_with ((go_at_call 24; (with_reducible refine (HC1.out _).grows.mono ?_); rintro e5 w5 ⟨rfl, hg5⟩; have hS5 := hS0.trans hg5))
      refine hK.out _ _ hS5 ?_
      clear hK K
      refine held_call 10 (by kernel_rfl) rfl (by rfl) (fun K hK => ?_)
      go_simp
      go_wp2_with ((go_at_call 24; (with_reducible refine (HC2.out _).grows.mono ?_); rintro e6 w6 ⟨rfl, hg6⟩; have hS6 := hS5.trans hg6))
      refine hK.out _ _ hS6 ?_
      clear hK K
      refine held_call 11 (by kernel_rfl) rfl (by rfl) (fun K hK => ?_)
      go_simp
      go_wp2_with ((go_at_call 23; (with_reducible refine (HJ.out _ ((HR.out.grew HGe.out).grew hS6)).mono ?_); rintro e7 w7 ⟨R7, c7, rfl, hg7, hr7, _⟩; have hS7 := hS6.trans hg7))
      refine hK.out _ _ hS7 ?_
      clear hK K
      refine held_take 12 (v := ?_) rfl (by kernel_rfl) (by kernel_rfl) (by kernel_rfl) (fun _ _ _ h => h) (by rfl) ?_ hS7 ?_
      rotate_left
      · (intro W hW; go_simp; with_reducible rfl)
      refine held_norm (a' := ?_) ?_ ?_
      rotate_left
      · (go_simp; with_reducible rfl)
      refine held_done (by kernel_rfl) ?_
      have HG7 := Lib.hid ((HG.out.trans HGe.out).trans hS7)
      have HR7 := Lib.hid hr7
      clear hS7 hr7 hg7 hS6 hg6 hS5 hg5 hS0
      go_wp2
      exact ⟨⟨i + 1, R7, c7, by omega, by go_num, rfl, HG7.out, by rw [HT.out]; exact HR7.out⟩, by simp only [intOf]; omega⟩
    · obtain rfl : i = l.length := by omega
      rw [List.take_length, HRf.out] at HR
      clear HJoin HRf HG2 HR2
      go_wp2_with fail
      clear xl x0 x1 x2 x3 x4 x5
      obtain ⟨wF, rfl⟩ : ∃ wo : World, wo = wr := ⟨_, rfl⟩
      go_loopw [6, 7] (fun v i wx => RoAt wF Rf n l v i wx) (fun _ i _ => n - (intOf i).toNat)
      case atStart => exact ⟨0, none, 0, [], Nat.zero_le _, rfl, rfl, Grew.refl _, own_none _ _ _ _, .nil⟩
      case round =>
        obtain ⟨t, A2, c2, css, ht, rfl, rfl, hG⟩ := hrel
        have HGt := Lib.hid hG
        obtain ⟨xl, x0, x1, x2, x3, x4, x5⟩ := nm_in (HB.out.grew (HG.out.trans hG.grew))
        clear hG
        by_cases h : t < n
        · have HGs := Lib.hid (graphG_succ Rf t l)
          have HGl := Lib.hid (graphG_len Rf t l)
          generalize graphG Rf t l = L at *
          go_wp2_with fail
          obtain ⟨wo, rfl⟩ : ∃ wo : World, wo = wr := ⟨_, rfl⟩
          go_loopw [8, 9] (fun v i wx => RiAt wF wo Rf t l v i wx) (fun _ i _ => l.length - (intOf i).toNat)
          case atStart => exact ⟨0, none, 0, Nat.zero_le _, rfl, by rw [List.take_zero]; rfl, by rw [List.take_zero]; exact Nat.le_refl _, by rw [List.take_zero]; exact Or.inl rfl, Grew.refl _⟩
          case round =>
            obtain ⟨i, A3, k3, hi, rfl, rfl, hk3, hrow, hg3⟩ := hrel
            have HG3 := Lib.hid hg3
            obtain ⟨xl, x0, x1, x2, x3, x4, x5⟩ := nm_in (HB.out.grew ((HG.out.trans HGt.out.grew).trans hg3))
            by_cases hlt : i < l.length
            · have HT := Lib.hid (vtxs_take Rf t l hlt)
              obtain ⟨b, o, rfl, hb0, a0, a1, a2, a3⟩ := edsR_at ((((H2.out.grew HG0.out).grew HG.out).grew HGt.out.grew).grew hg3) hlt
              have hm0 : (vtxs Rf t (l.take i)).length ≤ 6000 := by have h1 := vtxs_len Rf t (l.take i); rw [List.length_take] at h1; omega
              generalize l[i] = y at *
              generalize vtxs Rf t (l.take i) = m0 at *
              have HKk := Lib.hid hk3
              have HLn := Lib.hid hm0
              go_upto_region 16 with fail
              have HBe : Hid (Blok (wr.alloc (.cells #[.int .i64 y.a, .int .i64 y.ac, .int .i64 y.b, .int .i64 y.bc] 34)) wr.heap.size 34 #[.int .i64 y.a, .int .i64 y.ac, .int .i64 y.b, .int .i64 y.bc]) := Lib.hid (Blok.new _ _ _ _ rfl)
              have HGe : Hid (Grew wo (wr.alloc (.cells #[.int .i64 y.a, .int .i64 y.ac, .int .i64 y.b, .int .i64 y.bc] 34))) := Lib.hid (hg3.alloc _)
              have HRw : Hid (TRow wF.heap.size (wr.alloc (.cells #[.int .i64 y.a, .int .i64 y.ac, .int .i64 y.b, .int .i64 y.bc] 34)) 3 A3 (iV (setI m0))) := Lib.hid (hrow.grew ((Grew.refl wr).alloc _))
              have HSz : Hid (wF.heap.size ≤ (wr.alloc (.cells #[.int .i64 y.a, .int .i64 y.ac, .int .i64 y.b, .int .i64 y.bc] 34)).heap.size) := Lib.hid (Nat.le_trans HGt.out.grew.size HGe.out.size)
              have HRc : Hid (Row (wr.alloc (.cells #[.int .i64 y.a, .int .i64 y.ac, .int .i64 y.b, .int .i64 y.bc] 34)) R1 (numsL 128 Rf)) := Lib.hid (HR.out.grew (HGt.out.grew.trans HGe.out))
              clear hb0 a0 a1 a2 a3 xl x0 x1 x2 x3 x4 x5 hk3 hm0 hrow hg3
              generalize (wr.alloc (.cells #[.int .i64 y.a, .int .i64 y.ac, .int .i64 y.b, .int .i64 y.bc] 34)) = W4 at *
              generalize wr.heap.size = be at *
              have HGx : Hid (Grew W4 W4) := Lib.hid (Grew.refl W4)
              obtain ⟨r0, d0, d1, d2, d3, _, _, _, _⟩ := ed_in HBe.out
              have HCa : Hid (∀ W, Gives Try.prog 24 #[.int .i64 t, .int .i64 y.ac] W (.int .i64 (columnI t y.ac))) := Lib.hid fun W => rcolumn_any _ _ W
              have HCb : Hid (∀ W, Gives Try.prog 24 #[.int .i64 t, .int .i64 y.bc] W (.int .i64 (columnI t y.bc))) := Lib.hid fun W => rcolumn_any _ _ W
              have HPut : Hid (∀ (m : List Int) (v : Int) (A : Option Addr) (k : Nat) (W : World), m.length ≤ 20000 → (setI m).length ≤ k → wF.heap.size ≤ W.heap.size → TRow wF.heap.size W 3 A (iV (setI m)) → Calls Try.prog 60 #[.slice A (setI m).length k, .int .i64 v] W (PutT wF.heap.size W (setI (m ++ [v])))) := Lib.hid fun m v A k W h1 h2 h3 h4 => rput21_any m v A k (by omega) h2 W wF.heap.size h3 h4
              have hca := columnI_lt t y.ac
              have hcb := columnI_lt t y.bc
              have HVa : Hid (vtxA Rf t y = if y.a = t ∧ 0 ≤ columnI t y.ac then [((Rf (columnI t y.ac).toNat : Nat) : Int)] else []) := Lib.hid rfl
              have HVb : Hid (vtxB Rf t y = if y.b = t ∧ 0 ≤ columnI t y.bc then [((Rf (columnI t y.bc).toNat : Nat) : Int)] else []) := Lib.hid rfl
              generalize vtxA Rf t y = mA at *
              generalize vtxB Rf t y = mB at *
              generalize columnI t y.ac = ca at *
              generalize columnI t y.bc = cb at *
              have casesA : ¬ y.a = t ∨ (y.a = t ∧ ca = -1) ∨ (y.a = t ∧ 0 ≤ ca ∧ ca < 128) := by omega
              have casesB : ¬ y.b = t ∨ (y.b = t ∧ cb = -1) ∨ (y.b = t ∧ 0 ≤ cb ∧ cb < 128) := by omega
              clear hca hcb
              rcases casesA with e1 | e1 | e1
              · rcases casesB with e2 | e2 | e2
                · have ta : (y.a == (t : Int)) = false := by rw [beq_eq_false_iff_ne]; exact e1
                  have HMa : Hid (mA = []) := Lib.hid (by rw [HVa.out, if_neg (fun h => e1 h.1)])
                  have tb : (y.b == (t : Int)) = false := by rw [beq_eq_false_iff_ne]; exact e2
                  have HMb : Hid (mB = []) := Lib.hid (by rw [HVb.out, if_neg (fun h => e2 h.1)])
                  have HTb : Hid (vtxs Rf t (l.take (i + 1)) = m0) := Lib.hid (by rw [HT.out, HMa.out, HMb.out]; simp)
                  clear HT HMa HMb HVa HVb
                  clear e1 e2
                  go_wp2_with fail
                  exact ⟨⟨i + 1, _, _, by omega, by go_num, by rw [HTb.out], by rw [HTb.out]; first | exact HKk.out | simpa using HKk.out, by rw [HTb.out]; first | exact HRw.out | simpa using HRw.out, HGe.out.trans HGx.out⟩, by simp only [intOf]; omega⟩
                · have ta : (y.a == (t : Int)) = false := by rw [beq_eq_false_iff_ne]; exact e1
                  have HMa : Hid (mA = []) := Lib.hid (by rw [HVa.out, if_neg (fun h => e1 h.1)])
                  have tb : (y.b == (t : Int)) = true := by rw [beq_iff_eq]; exact e2.1
                  obtain rfl := e2.2
                  have ub : decide ((0 : Int) ≤ -1) = false := by decide
                  have HMb : Hid (mB = []) := Lib.hid (by rw [HVb.out, if_neg (fun h => absurd h.2 (by decide))])
                  have HTb : Hid (vtxs Rf t (l.take (i + 1)) = m0) := Lib.hid (by rw [HT.out, HMa.out, HMb.out]; simp)
                  clear HT HMa HMb HVa HVb
                  clear e1 e2
                  go_wp2_with (first | (go_at_call 24; (with_reducible refine (HCa.out _).grows.mono ?_); rintro e5 w5 ⟨rfl, hg5⟩; have HGx := Lib.hid (HGx.out.trans hg5); have HRw := Lib.hid (HRw.out.grew hg5); clear hg5; obtain ⟨r0, d0, d1, d2, d3, _, _, _, _⟩ := ed_in (HBe.out.grew HGx.out)) | (go_at_call 24; (with_reducible refine (HCb.out _).grows.mono ?_); rintro e5 w5 ⟨rfl, hg5⟩; have HGx := Lib.hid (HGx.out.trans hg5); have HRw := Lib.hid (HRw.out.grew hg5); clear hg5; obtain ⟨r0, d0, d1, d2, d3, _, _, _, _⟩ := ed_in (HBe.out.grew HGx.out)) | (go_at_call 60; (with_reducible refine (HPut.out _ _ _ _ _ (by first | (have := HLn.out; omega) | (rw [List.length_append]; have := HLn.out; simp only [List.length_cons, List.length_nil]; omega)) HKk.out (Nat.le_trans HSz.out HGx.out.size) HRw.out).mono ?_); rintro e5 w5 ⟨A5, k5, rfl, hk5, hg5, ht5⟩; have HGx := Lib.hid (HGx.out.trans hg5); have HRw := Lib.hid ht5; have HKk := Lib.hid hk5; clear hg5 ht5 hk5; obtain ⟨r0, d0, d1, d2, d3, _, _, _, _⟩ := ed_in (HBe.out.grew HGx.out)))
                  exact ⟨⟨i + 1, _, _, by omega, by go_num, by rw [HTb.out], by rw [HTb.out]; first | exact HKk.out | simpa using HKk.out, by rw [HTb.out]; first | exact HRw.out | simpa using HRw.out, HGe.out.trans HGx.out⟩, by simp only [intOf]; omega⟩
                · have ta : (y.a == (t : Int)) = false := by rw [beq_eq_false_iff_ne]; exact e1
                  have HMa : Hid (mA = []) := Lib.hid (by rw [HVa.out, if_neg (fun h => e1 h.1)])
                  have tb : (y.b == (t : Int)) = true := by rw [beq_iff_eq]; exact e2.1
                  obtain ⟨nb, rfl⟩ := Int.eq_ofNat_of_zero_le e2.2.1
                  have hnb : nb < 128 := by have := e2.2.2; omega
                  have hib : (nb : Int) < 128 := by omega
                  have ub : decide ((0 : Int) ≤ (nb : Int)) = true := decide_eq_true (by omega)
                  have HMb : Hid (mB = [((Rf nb : Nat) : Int)]) := Lib.hid (by rw [HVb.out, if_pos ⟨e2.1, by omega⟩, Int.toNat_natCast])
                  obtain ⟨rbb, rob, hRRb, hbb, ccb⟩ := HRc.out.nums hnb
                  obtain rfl := hRRb
                  have HNb : Hid (∀ W, Grew W4 W → rbb < W.heap.size ∧ W.cell? ⟨rbb, rob + nb, none⟩ = some (.int .i64 (Rf nb : Nat))) := Lib.hid fun W hW => cell_grew hW (by first | exact hbb | exact hba) ccb
                  generalize hpb : Rf nb = pb at *
                  clear hpb
                  have HTb : Hid (vtxs Rf t (l.take (i + 1)) = m0 ++ [((pb : Nat) : Int)]) := Lib.hid (by rw [HT.out, HMa.out, HMb.out]; simp)
                  clear HT HMa HMb HVa HVb
                  clear e1 e2
                  go_wp2_with (first | (go_at_call 24; (with_reducible refine (HCa.out _).grows.mono ?_); rintro e5 w5 ⟨rfl, hg5⟩; have HGx := Lib.hid (HGx.out.trans hg5); have HRw := Lib.hid (HRw.out.grew hg5); clear hg5; obtain ⟨r0, d0, d1, d2, d3, _, _, _, _⟩ := ed_in (HBe.out.grew HGx.out); obtain ⟨_, _⟩ := HNb.out _ HGx.out) | (go_at_call 24; (with_reducible refine (HCb.out _).grows.mono ?_); rintro e5 w5 ⟨rfl, hg5⟩; have HGx := Lib.hid (HGx.out.trans hg5); have HRw := Lib.hid (HRw.out.grew hg5); clear hg5; obtain ⟨r0, d0, d1, d2, d3, _, _, _, _⟩ := ed_in (HBe.out.grew HGx.out); obtain ⟨_, _⟩ := HNb.out _ HGx.out) | (go_at_call 60; (with_reducible refine (HPut.out _ _ _ _ _ (by first | (have := HLn.out; omega) | (rw [List.length_append]; have := HLn.out; simp only [List.length_cons, List.length_nil]; omega)) HKk.out (Nat.le_trans HSz.out HGx.out.size) HRw.out).mono ?_); rintro e5 w5 ⟨A5, k5, rfl, hk5, hg5, ht5⟩; have HGx := Lib.hid (HGx.out.trans hg5); have HRw := Lib.hid ht5; have HKk := Lib.hid hk5; clear hg5 ht5 hk5; obtain ⟨r0, d0, d1, d2, d3, _, _, _, _⟩ := ed_in (HBe.out.grew HGx.out); obtain ⟨_, _⟩ := HNb.out _ HGx.out))
                  exact ⟨⟨i + 1, _, _, by omega, by go_num, by rw [HTb.out], by rw [HTb.out]; first | exact HKk.out | simpa using HKk.out, by rw [HTb.out]; first | exact HRw.out | simpa using HRw.out, HGe.out.trans HGx.out⟩, by simp only [intOf]; omega⟩
              · rcases casesB with e2 | e2 | e2
                · have ta : (y.a == (t : Int)) = true := by rw [beq_iff_eq]; exact e1.1
                  obtain rfl := e1.2
                  have ua : decide ((0 : Int) ≤ -1) = false := by decide
                  have HMa : Hid (mA = []) := Lib.hid (by rw [HVa.out, if_neg (fun h => absurd h.2 (by decide))])
                  have tb : (y.b == (t : Int)) = false := by rw [beq_eq_false_iff_ne]; exact e2
                  have HMb : Hid (mB = []) := Lib.hid (by rw [HVb.out, if_neg (fun h => e2 h.1)])
                  have HTb : Hid (vtxs Rf t (l.take (i + 1)) = m0) := Lib.hid (by rw [HT.out, HMa.out, HMb.out]; simp)
                  clear HT HMa HMb HVa HVb
                  clear e1 e2
                  go_wp2_with (first | (go_at_call 24; (with_reducible refine (HCa.out _).grows.mono ?_); rintro e5 w5 ⟨rfl, hg5⟩; have HGx := Lib.hid (HGx.out.trans hg5); have HRw := Lib.hid (HRw.out.grew hg5); clear hg5; obtain ⟨r0, d0, d1, d2, d3, _, _, _, _⟩ := ed_in (HBe.out.grew HGx.out)) | (go_at_call 24; (with_reducible refine (HCb.out _).grows.mono ?_); rintro e5 w5 ⟨rfl, hg5⟩; have HGx := Lib.hid (HGx.out.trans hg5); have HRw := Lib.hid (HRw.out.grew hg5); clear hg5; obtain ⟨r0, d0, d1, d2, d3, _, _, _, _⟩ := ed_in (HBe.out.grew HGx.out)) | (go_at_call 60; (with_reducible refine (HPut.out _ _ _ _ _ (by first | (have := HLn.out; omega) | (rw [List.length_append]; have := HLn.out; simp only [List.length_cons, List.length_nil]; omega)) HKk.out (Nat.le_trans HSz.out HGx.out.size) HRw.out).mono ?_); rintro e5 w5 ⟨A5, k5, rfl, hk5, hg5, ht5⟩; have HGx := Lib.hid (HGx.out.trans hg5); have HRw := Lib.hid ht5; have HKk := Lib.hid hk5; clear hg5 ht5 hk5; obtain ⟨r0, d0, d1, d2, d3, _, _, _, _⟩ := ed_in (HBe.out.grew HGx.out)))
                  exact ⟨⟨i + 1, _, _, by omega, by go_num, by rw [HTb.out], by rw [HTb.out]; first | exact HKk.out | simpa using HKk.out, by rw [HTb.out]; first | exact HRw.out | simpa using HRw.out, HGe.out.trans HGx.out⟩, by simp only [intOf]; omega⟩
                · have ta : (y.a == (t : Int)) = true := by rw [beq_iff_eq]; exact e1.1
                  obtain rfl := e1.2
                  have ua : decide ((0 : Int) ≤ -1) = false := by decide
                  have HMa : Hid (mA = []) := Lib.hid (by rw [HVa.out, if_neg (fun h => absurd h.2 (by decide))])
                  have tb : (y.b == (t : Int)) = true := by rw [beq_iff_eq]; exact e2.1
                  obtain rfl := e2.2
                  have ub : decide ((0 : Int) ≤ -1) = false := by decide
                  have HMb : Hid (mB = []) := Lib.hid (by rw [HVb.out, if_neg (fun h => absurd h.2 (by decide))])
                  have HTb : Hid (vtxs Rf t (l.take (i + 1)) = m0) := Lib.hid (by rw [HT.out, HMa.out, HMb.out]; simp)
                  clear HT HMa HMb HVa HVb
                  clear e1 e2
                  go_wp2_with (first | (go_at_call 24; (with_reducible refine (HCa.out _).grows.mono ?_); rintro e5 w5 ⟨rfl, hg5⟩; have HGx := Lib.hid (HGx.out.trans hg5); have HRw := Lib.hid (HRw.out.grew hg5); clear hg5; obtain ⟨r0, d0, d1, d2, d3, _, _, _, _⟩ := ed_in (HBe.out.grew HGx.out)) | (go_at_call 24; (with_reducible refine (HCb.out _).grows.mono ?_); rintro e5 w5 ⟨rfl, hg5⟩; have HGx := Lib.hid (HGx.out.trans hg5); have HRw := Lib.hid (HRw.out.grew hg5); clear hg5; obtain ⟨r0, d0, d1, d2, d3, _, _, _, _⟩ := ed_in (HBe.out.grew HGx.out)) | (go_at_call 60; (with_reducible refine (HPut.out _ _ _ _ _ (by first | (have := HLn.out; omega) | (rw [List.length_append]; have := HLn.out; simp only [List.length_cons, List.length_nil]; omega)) HKk.out (Nat.le_trans HSz.out HGx.out.size) HRw.out).mono ?_); rintro e5 w5 ⟨A5, k5, rfl, hk5, hg5, ht5⟩; have HGx := Lib.hid (HGx.out.trans hg5); have HRw := Lib.hid ht5; have HKk := Lib.hid hk5; clear hg5 ht5 hk5; obtain ⟨r0, d0, d1, d2, d3, _, _, _, _⟩ := ed_in (HBe.out.grew HGx.out)))
                  exact ⟨⟨i + 1, _, _, by omega, by go_num, by rw [HTb.out], by rw [HTb.out]; first | exact HKk.out | simpa using HKk.out, by rw [HTb.out]; first | exact HRw.out | simpa using HRw.out, HGe.out.trans HGx.out⟩, by simp only [intOf]; omega⟩
                · have ta : (y.a == (t : Int)) = true := by rw [beq_iff_eq]; exact e1.1
                  obtain rfl := e1.2
                  have ua : decide ((0 : Int) ≤ -1) = false := by decide
                  have HMa : Hid (mA = []) := Lib.hid (by rw [HVa.out, if_neg (fun h => absurd h.2 (by decide))])
                  have tb : (y.b == (t : Int)) = true := by rw [beq_iff_eq]; exact e2.1
                  obtain ⟨nb, rfl⟩ := Int.eq_ofNat_of_zero_le e2.2.1
                  have hnb : nb < 128 := by have := e2.2.2; omega
                  have hib : (nb : Int) < 128 := by omega
                  have ub : decide ((0 : Int) ≤ (nb : Int)) = true := decide_eq_true (by omega)
                  have HMb : Hid (mB = [((Rf nb : Nat) : Int)]) := Lib.hid (by rw [HVb.out, if_pos ⟨e2.1, by omega⟩, Int.toNat_natCast])
                  obtain ⟨rbb, rob, hRRb, hbb, ccb⟩ := HRc.out.nums hnb
                  obtain rfl := hRRb
                  have HNb : Hid (∀ W, Grew W4 W → rbb < W.heap.size ∧ W.cell? ⟨rbb, rob + nb, none⟩ = some (.int .i64 (Rf nb : Nat))) := Lib.hid fun W hW => cell_grew hW (by first | exact hbb | exact hba) ccb
                  generalize hpb : Rf nb = pb at *
                  clear hpb
                  have HTb : Hid (vtxs Rf t (l.take (i + 1)) = m0 ++ [((pb : Nat) : Int)]) := Lib.hid (by rw [HT.out, HMa.out, HMb.out]; simp)
                  clear HT HMa HMb HVa HVb
                  clear e1 e2
                  go_wp2_with (first | (go_at_call 24; (with_reducible refine (HCa.out _).grows.mono ?_); rintro e5 w5 ⟨rfl, hg5⟩; have HGx := Lib.hid (HGx.out.trans hg5); have HRw := Lib.hid (HRw.out.grew hg5); clear hg5; obtain ⟨r0, d0, d1, d2, d3, _, _, _, _⟩ := ed_in (HBe.out.grew HGx.out); obtain ⟨_, _⟩ := HNb.out _ HGx.out) | (go_at_call 24; (with_reducible refine (HCb.out _).grows.mono ?_); rintro e5 w5 ⟨rfl, hg5⟩; have HGx := Lib.hid (HGx.out.trans hg5); have HRw := Lib.hid (HRw.out.grew hg5); clear hg5; obtain ⟨r0, d0, d1, d2, d3, _, _, _, _⟩ := ed_in (HBe.out.grew HGx.out); obtain ⟨_, _⟩ := HNb.out _ HGx.out) | (go_at_call 60; (with_reducible refine (HPut.out _ _ _ _ _ (by first | (have := HLn.out; omega) | (rw [List.length_append]; have := HLn.out; simp only [List.length_cons, List.length_nil]; omega)) HKk.out (Nat.le_trans HSz.out HGx.out.size) HRw.out).mono ?_); rintro e5 w5 ⟨A5, k5, rfl, hk5, hg5, ht5⟩; have HGx := Lib.hid (HGx.out.trans hg5); have HRw := Lib.hid ht5; have HKk := Lib.hid hk5; clear hg5 ht5 hk5; obtain ⟨r0, d0, d1, d2, d3, _, _, _, _⟩ := ed_in (HBe.out.grew HGx.out); obtain ⟨_, _⟩ := HNb.out _ HGx.out))
                  exact ⟨⟨i + 1, _, _, by omega, by go_num, by rw [HTb.out], by rw [HTb.out]; first | exact HKk.out | simpa using HKk.out, by rw [HTb.out]; first | exact HRw.out | simpa using HRw.out, HGe.out.trans HGx.out⟩, by simp only [intOf]; omega⟩
              · rcases casesB with e2 | e2 | e2
                · have ta : (y.a == (t : Int)) = true := by rw [beq_iff_eq]; exact e1.1
                  obtain ⟨na, rfl⟩ := Int.eq_ofNat_of_zero_le e1.2.1
                  have hna : na < 128 := by have := e1.2.2; omega
                  have hia : (na : Int) < 128 := by omega
                  have ua : decide ((0 : Int) ≤ (na : Int)) = true := decide_eq_true (by omega)
                  have HMa : Hid (mA = [((Rf na : Nat) : Int)]) := Lib.hid (by rw [HVa.out, if_pos ⟨e1.1, by omega⟩, Int.toNat_natCast])
                  obtain ⟨rba, roa, hRRa, hba, cca⟩ := HRc.out.nums hna
                  obtain rfl := hRRa
                  have tb : (y.b == (t : Int)) = false := by rw [beq_eq_false_iff_ne]; exact e2
                  have HMb : Hid (mB = []) := Lib.hid (by rw [HVb.out, if_neg (fun h => e2 h.1)])
                  have HNa : Hid (∀ W, Grew W4 W → rba < W.heap.size ∧ W.cell? ⟨rba, roa + na, none⟩ = some (.int .i64 (Rf na : Nat))) := Lib.hid fun W hW => cell_grew hW hba cca
                  generalize hpa : Rf na = pa at *
                  clear hpa
                  have HTb : Hid (vtxs Rf t (l.take (i + 1)) = m0 ++ [((pa : Nat) : Int)]) := Lib.hid (by rw [HT.out, HMa.out, HMb.out]; simp)
                  clear HT HMa HMb HVa HVb
                  clear e1 e2
                  go_wp2_with (first | (go_at_call 24; (with_reducible refine (HCa.out _).grows.mono ?_); rintro e5 w5 ⟨rfl, hg5⟩; have HGx := Lib.hid (HGx.out.trans hg5); have HRw := Lib.hid (HRw.out.grew hg5); clear hg5; obtain ⟨r0, d0, d1, d2, d3, _, _, _, _⟩ := ed_in (HBe.out.grew HGx.out); obtain ⟨_, _⟩ := HNa.out _ HGx.out) | (go_at_call 24; (with_reducible refine (HCb.out _).grows.mono ?_); rintro e5 w5 ⟨rfl, hg5⟩; have HGx := Lib.hid (HGx.out.trans hg5); have HRw := Lib.hid (HRw.out.grew hg5); clear hg5; obtain ⟨r0, d0, d1, d2, d3, _, _, _, _⟩ := ed_in (HBe.out.grew HGx.out); obtain ⟨_, _⟩ := HNa.out _ HGx.out) | (go_at_call 60; (with_reducible refine (HPut.out _ _ _ _ _ (by first | (have := HLn.out; omega) | (rw [List.length_append]; have := HLn.out; simp only [List.length_cons, List.length_nil]; omega)) HKk.out (Nat.le_trans HSz.out HGx.out.size) HRw.out).mono ?_); rintro e5 w5 ⟨A5, k5, rfl, hk5, hg5, ht5⟩; have HGx := Lib.hid (HGx.out.trans hg5); have HRw := Lib.hid ht5; have HKk := Lib.hid hk5; clear hg5 ht5 hk5; obtain ⟨r0, d0, d1, d2, d3, _, _, _, _⟩ := ed_in (HBe.out.grew HGx.out); obtain ⟨_, _⟩ := HNa.out _ HGx.out))
                  exact ⟨⟨i + 1, _, _, by omega, by go_num, by rw [HTb.out], by rw [HTb.out]; first | exact HKk.out | simpa using HKk.out, by rw [HTb.out]; first | exact HRw.out | simpa using HRw.out, HGe.out.trans HGx.out⟩, by simp only [intOf]; omega⟩
                · have ta : (y.a == (t : Int)) = true := by rw [beq_iff_eq]; exact e1.1
                  obtain ⟨na, rfl⟩ := Int.eq_ofNat_of_zero_le e1.2.1
                  have hna : na < 128 := by have := e1.2.2; omega
                  have hia : (na : Int) < 128 := by omega
                  have ua : decide ((0 : Int) ≤ (na : Int)) = true := decide_eq_true (by omega)
                  have HMa : Hid (mA = [((Rf na : Nat) : Int)]) := Lib.hid (by rw [HVa.out, if_pos ⟨e1.1, by omega⟩, Int.toNat_natCast])
                  obtain ⟨rba, roa, hRRa, hba, cca⟩ := HRc.out.nums hna
                  obtain rfl := hRRa
                  have tb : (y.b == (t : Int)) = true := by rw [beq_iff_eq]; exact e2.1
                  obtain rfl := e2.2
                  have ub : decide ((0 : Int) ≤ -1) = false := by decide
                  have HMb : Hid (mB = []) := Lib.hid (by rw [HVb.out, if_neg (fun h => absurd h.2 (by decide))])
                  have HNa : Hid (∀ W, Grew W4 W → rba < W.heap.size ∧ W.cell? ⟨rba, roa + na, none⟩ = some (.int .i64 (Rf na : Nat))) := Lib.hid fun W hW => cell_grew hW hba cca
                  generalize hpa : Rf na = pa at *
                  clear hpa
                  have HTb : Hid (vtxs Rf t (l.take (i + 1)) = m0 ++ [((pa : Nat) : Int)]) := Lib.hid (by rw [HT.out, HMa.out, HMb.out]; simp)
                  clear HT HMa HMb HVa HVb
                  clear e1 e2
                  go_wp2_with (first | (go_at_call 24; (with_reducible refine (HCa.out _).grows.mono ?_); rintro e5 w5 ⟨rfl, hg5⟩; have HGx := Lib.hid (HGx.out.trans hg5); have HRw := Lib.hid (HRw.out.grew hg5); clear hg5; obtain ⟨r0, d0, d1, d2, d3, _, _, _, _⟩ := ed_in (HBe.out.grew HGx.out); obtain ⟨_, _⟩ := HNa.out _ HGx.out) | (go_at_call 24; (with_reducible refine (HCb.out _).grows.mono ?_); rintro e5 w5 ⟨rfl, hg5⟩; have HGx := Lib.hid (HGx.out.trans hg5); have HRw := Lib.hid (HRw.out.grew hg5); clear hg5; obtain ⟨r0, d0, d1, d2, d3, _, _, _, _⟩ := ed_in (HBe.out.grew HGx.out); obtain ⟨_, _⟩ := HNa.out _ HGx.out) | (go_at_call 60; (with_reducible refine (HPut.out _ _ _ _ _ (by first | (have := HLn.out; omega) | (rw [List.length_append]; have := HLn.out; simp only [List.length_cons, List.length_nil]; omega)) HKk.out (Nat.le_trans HSz.out HGx.out.size) HRw.out).mono ?_); rintro e5 w5 ⟨A5, k5, rfl, hk5, hg5, ht5⟩; have HGx := Lib.hid (HGx.out.trans hg5); have HRw := Lib.hid ht5; have HKk := Lib.hid hk5; clear hg5 ht5 hk5; obtain ⟨r0, d0, d1, d2, d3, _, _, _, _⟩ := ed_in (HBe.out.grew HGx.out); obtain ⟨_, _⟩ := HNa.out _ HGx.out))
                  exact ⟨⟨i + 1, _, _, by omega, by go_num, by rw [HTb.out], by rw [HTb.out]; first | exact HKk.out | simpa using HKk.out, by rw [HTb.out]; first | exact HRw.out | simpa using HRw.out, HGe.out.trans HGx.out⟩, by simp only [intOf]; omega⟩
                · have ta : (y.a == (t : Int)) = true := by rw [beq_iff_eq]; exact e1.1
                  obtain ⟨na, rfl⟩ := Int.eq_ofNat_of_zero_le e1.2.1
                  have hna : na < 128 := by have := e1.2.2; omega
                  have hia : (na : Int) < 128 := by omega
                  have ua : decide ((0 : Int) ≤ (na : Int)) = true := decide_eq_true (by omega)
                  have HMa : Hid (mA = [((Rf na : Nat) : Int)]) := Lib.hid (by rw [HVa.out, if_pos ⟨e1.1, by omega⟩, Int.toNat_natCast])
                  obtain ⟨rba, roa, hRRa, hba, cca⟩ := HRc.out.nums hna
                  obtain rfl := hRRa
                  have tb : (y.b == (t : Int)) = true := by rw [beq_iff_eq]; exact e2.1
                  obtain ⟨nb, rfl⟩ := Int.eq_ofNat_of_zero_le e2.2.1
                  have hnb : nb < 128 := by have := e2.2.2; omega
                  have hib : (nb : Int) < 128 := by omega
                  have ub : decide ((0 : Int) ≤ (nb : Int)) = true := decide_eq_true (by omega)
                  have HMb : Hid (mB = [((Rf nb : Nat) : Int)]) := Lib.hid (by rw [HVb.out, if_pos ⟨e2.1, by omega⟩, Int.toNat_natCast])
                  obtain ⟨rbb, rob, hRRb, hbb, ccb⟩ := HRc.out.nums hnb
                  injection hRRb with hRRb; injection hRRb with q1 q2 _; subst q1 q2
                  have HNa : Hid (∀ W, Grew W4 W → rba < W.heap.size ∧ W.cell? ⟨rba, roa + na, none⟩ = some (.int .i64 (Rf na : Nat))) := Lib.hid fun W hW => cell_grew hW hba cca
                  have HNb : Hid (∀ W, Grew W4 W → rba < W.heap.size ∧ W.cell? ⟨rba, roa + nb, none⟩ = some (.int .i64 (Rf nb : Nat))) := Lib.hid fun W hW => cell_grew hW (by first | exact hbb | exact hba) ccb
                  generalize hpa : Rf na = pa at *
                  clear hpa
                  generalize hpb : Rf nb = pb at *
                  clear hpb
                  have HTb : Hid (vtxs Rf t (l.take (i + 1)) = m0 ++ [((pa : Nat) : Int), ((pb : Nat) : Int)]) := Lib.hid (by rw [HT.out, HMa.out, HMb.out]; simp)
                  clear HT HMa HMb HVa HVb
                  clear e1 e2
                  go_wp2_with (first | (go_at_call 24; (with_reducible refine (HCa.out _).grows.mono ?_); rintro e5 w5 ⟨rfl, hg5⟩; have HGx := Lib.hid (HGx.out.trans hg5); have HRw := Lib.hid (HRw.out.grew hg5); clear hg5; obtain ⟨r0, d0, d1, d2, d3, _, _, _, _⟩ := ed_in (HBe.out.grew HGx.out); obtain ⟨_, _⟩ := HNa.out _ HGx.out; obtain ⟨_, _⟩ := HNb.out _ HGx.out) | (go_at_call 24; (with_reducible refine (HCb.out _).grows.mono ?_); rintro e5 w5 ⟨rfl, hg5⟩; have HGx := Lib.hid (HGx.out.trans hg5); have HRw := Lib.hid (HRw.out.grew hg5); clear hg5; obtain ⟨r0, d0, d1, d2, d3, _, _, _, _⟩ := ed_in (HBe.out.grew HGx.out); obtain ⟨_, _⟩ := HNa.out _ HGx.out; obtain ⟨_, _⟩ := HNb.out _ HGx.out) | (go_at_call 60; (with_reducible refine (HPut.out _ _ _ _ _ (by first | (have := HLn.out; omega) | (rw [List.length_append]; have := HLn.out; simp only [List.length_cons, List.length_nil]; omega)) HKk.out (Nat.le_trans HSz.out HGx.out.size) HRw.out).mono ?_); rintro e5 w5 ⟨A5, k5, rfl, hk5, hg5, ht5⟩; have HGx := Lib.hid (HGx.out.trans hg5); have HRw := Lib.hid ht5; have HKk := Lib.hid hk5; clear hg5 ht5 hk5; obtain ⟨r0, d0, d1, d2, d3, _, _, _, _⟩ := ed_in (HBe.out.grew HGx.out); obtain ⟨_, _⟩ := HNa.out _ HGx.out; obtain ⟨_, _⟩ := HNb.out _ HGx.out))
                  exact ⟨⟨i + 1, _, _, by omega, by go_num, by rw [HTb.out], by rw [HTb.out]; first | exact HKk.out | simpa using HKk.out, by rw [HTb.out]; first | exact HRw.out | simpa using HRw.out, HGe.out.trans HGx.out⟩, by simp only [intOf]; omega⟩
            · obtain rfl : i = l.length := by omega
              rw [List.take_length] at hk3 hrow ⊢
              have hln : (setI (vtxs Rf t l)).length ≤ 20000 := by have h1 := vtxs_len Rf t l; have h2 := setI_len (vtxs Rf t l); omega
              generalize setI (vtxs Rf t l) = m at *
              have HRw := Lib.hid hrow
              have HG6 := Lib.hid (HGt.out.on hg3)
              clear hrow hg3
              go_wp2_with (at_builtin; refine wpList_appB rfl _ _ 59 37 1 rfl wF.heap.size (.slice none 0 0) 24 Try.underlying59 infoL21 rfl (by decide) (by decide) _ t css.flatten rfl (by have := own_alloc HG6.out.own (.cells #[.slice A3 m.length k3] 37); rw [HGl.out] at this; exact this) _ 1 1 [.slice A3 m.length k3] rfl rfl (row_one _ _ _ _ rfl) (by simp [Value.oneCell']) (by omega) (by rw [World.size_alloc]; have := HG6.out.grew.size; omega) ?_; intro A9 c9 w9 ho9 hg9; have HF := Lib.hid ((HG6.out.on ((Grew.refl _).alloc (.cells #[.slice A3 m.length k3] 37))).snoc (x := m) (v := .slice A3 m.length k3) (Nat.le_refl _) ⟨A3, k3, rfl, Or.inr (HRw.out.grew ((Grew.refl _).alloc _))⟩ (by rw [HGl.out]; exact ho9) (by rw [HGl.out]; exact hg9)); clear ho9 hg9)
              exact ⟨⟨t + 1, A9, c9, _, by omega, by go_num, rfl, by rw [HGs.out]; exact HF.out⟩, by simp only [intOf]; omega⟩
        · obtain rfl : t = n := by omega
          have HFn : Hid (GridF w (graphG Rf t l) (.returned (.slice A2 t c2)) wr) := Lib.hid ⟨A2, c2, by rw [graphG_len], (HG0.out.trans HG.out).trans HGt.out.grew, HGt.out.done⟩
          go_wp2
          go_ret
          exact HFn.out
end Go.Proofs.Ytchogpdfdpbpfaa

/- Layer 21: a query's hypergraph while it is put together, by the program: classes, and a set for each table; one column more. No condition. -/
namespace Go.Proofs.Ytchogpdfdpbpfaa
open Go.RowKit
attribute [local go_sem] more_cell more_frozen more_more more_setCell more_of_drew more_of_drewN lt_more le_more past_cell past_cell2 past_frozen past_frozen2 past_setCell past_setCell2 mid_cell mid_frozen mid_setCell
attribute [local go_sem ↓] Go.wp_at_zero Go.wp_at_succ

theorem grownBy_setG (w : World) (b i : Nat) (v : Value) : w.grownBy (w.setCell ⟨b, i, none⟩ v) (some b) := by
  refine ⟨rfl, rfl, rfl, by simp [World.setCell], fun k hk hne => ?_⟩
  simp only [World.setCell, Array.getElem?_modify]
  rw [if_neg (fun e => hne (by rw [e]))]
theorem SetL.keep2 {w w' : World} {b g h : Nat} {L : List Int} (s : SetL w b L) (k : Keep2 w w' g h) (h1 : b ≠ g) (h2 : b ≠ h) : SetL w' b L := by
  obtain ⟨n, D, hn, ⟨es, clock, hb, hr⟩, q⟩ := s
  exact ⟨n, D, hn, ⟨es, clock, (k.block b (heap_lt hb) h1 h2).trans hb, hr⟩, q⟩
/-- The sets of n tables, q of which have been made. -/
def mapsV (n q : Nat) (ms : Nat → Nat) : Array Value := ((List.range n).map fun i => if i < q then Value.map (some (ms i)) else Value.map none).toArray
theorem mapsV_at {n q : Nat} {ms : Nat → Nat} {i : Nat} (h : i < n) (hq : i < q) : (mapsV n q ms)[i]? = some (.map (some (ms i))) := by
  unfold mapsV
  simp [h, hq]
theorem mapsV_set (n q : Nat) (ms : Nat → Nat) (m : Nat) : (mapsV n q ms).setIfInBounds q (.map (some m)) = mapsV n (q + 1) (fun i => if i = q then m else ms i) := by
  unfold mapsV
  apply Array.ext_getElem?
  intro i
  rw [Array.getElem?_setIfInBounds]
  by_cases h : i < n
  · by_cases e : q = i
    · subst e
      simp [h]
    · rw [if_neg e]
      by_cases e2 : i < q
      · simp [h, e2, show i < q + 1 by omega, show i ≠ q by omega]
      · simp [h, e2, show ¬ i < q + 1 by omega]
  · by_cases e : q = i
    · subst e
      simp [h]
    · rw [if_neg e]
      simp [h]
/-- Classes and sets, with where they lie. -/
structure Gs (u w : World) (bc be bs g h n q : Nat) (R : Nat → Nat) (ms : Nat → Nat) (Lf : Nat → List Int) : Prop where
  cls : Blok w bc 50 #[.pointer (some ⟨g, 0, none⟩)]
  edg : Blok w be 87 #[.slice (some ⟨bs, 0, none⟩) n n]
  row : Blok w bs 89 (mapsV n q ms)
  maps : ∀ i, i < q → SetL w (ms i) (Lf i)
  apart : ∀ i j, i < q → j < q → ms i = ms j → i = j
  high : ∀ i, i < q → be < ms i
  low : g < bc ∧ h < bc ∧ bc < bs ∧ bs < be ∧ u.heap.size ≤ bc
  uf : UfS u g h 128 R w
section
variable {u w w' : World} {bc be bs g h n q : Nat} {R : Nat → Nat} {ms : Nat → Nat} {Lf : Nat → List Int}
theorem Gs.on (s : Gs u w bc be bs g h n q R ms Lf) (k : Grew w w') : Gs u w' bc be bs g h n q R ms Lf :=
  ⟨s.cls.grew k, s.edg.grew k, s.row.grew k, fun i hi => (s.maps i hi).grew k, s.apart, s.high, s.low, s.uf.on k⟩
theorem Gs.found (s : Gs u w bc be bs g h n q R ms Lf) (k : Keep2 w w' g h) (hu : UfS u g h 128 R w') : Gs u w' bc be bs g h n q R ms Lf := by
  obtain ⟨l1, l2, l3, l4, l5⟩ := s.low
  exact ⟨s.cls.keepB k (by omega) (by omega), s.edg.keepB k (by omega) (by omega), s.row.keepB k (by omega) (by omega), fun i hi => by have := s.high i hi; exact (s.maps i hi).keep2 k (by omega) (by omega), s.apart, s.high, s.low, hu⟩
/-- One set more. -/
theorem Gs.made (s : Gs u w bc be bs g h n q R ms Lf) (hb : be < w.heap.size) : Gs u ((w.alloc (.map #[] 0)).setCell ⟨bs, q, none⟩ (.map (some w.heap.size))) bc be bs g h n (q + 1) R (fun i => if i = q then w.heap.size else ms i) (fun i => if i = q then [] else Lf i) := by
  obtain ⟨l1, l2, l3, l4, l5⟩ := s.low
  have k : Grew w (w.alloc (.map #[] 0)) := (Grew.refl w).alloc _
  have g1 := grownBy_setG (w.alloc (.map #[] 0)) bs q (.map (some w.heap.size))
  have hlt : ∀ i, i < q → ms i < w.heap.size := fun i hi => (s.maps i hi).lt
  refine ⟨(s.cls.grew k).far (p := ⟨bs, q, none⟩) (by show bc ≠ bs; omega) _, (s.edg.grew k).far (p := ⟨bs, q, none⟩) (by show be ≠ bs; omega) _, ?_, fun i hi => ?_, fun i j hi hj e => ?_, fun i hi => ?_, s.low, (s.uf.on k).far (by omega) (by omega) (by omega) _⟩
  · rw [← mapsV_set]
    exact (s.row.grew k).set q _
  · by_cases e : i = q
    · subst e
      simp only [if_true]
      exact (set_new w w.heap.size rfl).kept g1 (by intro e; injection e; omega)
    · have hi' : i < q := by omega
      simp only [if_neg e]
      have := s.high i hi'
      exact ((s.maps i hi').grew k).kept g1 (by intro e; injection e; omega)
  · by_cases e1 : i = q
    · by_cases e2 : j = q
      · omega
      · have := hlt j (by omega)
        simp only [if_pos e1, if_neg e2] at e
        omega
    · by_cases e2 : j = q
      · have := hlt i (by omega)
        simp only [if_neg e1, if_pos e2] at e
        omega
      · simp only [if_neg e1, if_neg e2] at e
        exact s.apart i j (by omega) (by omega) e
  · by_cases e : i = q
    · simp only [if_pos e]; exact hb
    · simp only [if_neg e]; exact s.high i (by omega)
/-- A number more in one of the sets. -/
theorem Gs.put (s : Gs u w bc be bs g h n q R ms Lf) {t : Nat} (ht : t < q) {z : Int} (hs : SetL w' (ms t) (Lf t ++ [z])) (k : w.grownBy w' (some (ms t))) : Gs u w' bc be bs g h n q R ms (fun i => if i = t then Lf i ++ [z] else Lf i) := by
  obtain ⟨l1, l2, l3, l4, l5⟩ := s.low
  have hh := s.high t ht
  refine ⟨s.cls.grown k (by intro e; injection e; omega), s.edg.grown k (by intro e; injection e; omega), s.row.grown k (by intro e; injection e; omega), fun i hi => ?_, s.apart, s.high, s.low, s.uf.grown k (fun i hi => by injection hi with hi; subst hi; exact ⟨by omega, by omega, by omega⟩)⟩
  by_cases e : i = t
  · subst e
    simp only [if_true]
    exact hs
  · simp only [if_neg e]
    exact (s.maps i hi).kept k (by intro e2; injection e2 with e2; exact e (s.apart i t hi ht e2))
end
/-- What a column adds to a table's classes. -/
def vtx (R : Nat → Nat) (i : Int) (t c : Int) : List Int := if t = i ∧ 0 ≤ columnI i c then [((R (columnI i c).toNat : Nat) : Int)] else []
def KeptG (w w' : World) (g h : Nat) : Prop := ∀ b T cs, b ≠ g → b ≠ h → Blok w b T cs → Blok w' b T cs
theorem SetL.cells {w w' : World} {m : Nat} {L : List Int} (s : SetL w m L) (k : w.grownBy w' (some m)) {b : Nat} {T : TypeId} {cs : Array Value} (hb : Blok w b T cs) : Blok w' b T cs := by
  refine hb.grown k fun e => ?_
  injection e with e
  subst e
  obtain ⟨n, D, _, ⟨es, clock, hh, _⟩, _⟩ := s
  unfold Blok at hb
  rw [hb] at hh
  cases hh
def PutG (u w : World) (bc be bs g h n : Nat) (R : Nat → Nat) (ms : Nat → Nat) (Lf : Nat → List Int) (e : Ending) (w' : World) : Prop := e = .returned (.tuple #[]) ∧ Gs u w' bc be bs g h n n R ms Lf ∧ KeptG w w' g h
theorem columnI_neg {t c : Int} (h : columnI t c = -1) (R : Nat → Nat) (i : Int) : vtx R i t c = [] := by
  unfold vtx
  rw [if_neg]
  rintro ⟨e, h2⟩
  subst e
  omega
theorem columnI_low {t c : Int} (h : 0 ≤ columnI t c) : 0 ≤ t := by
  unfold columnI at h
  split at h <;> omega
theorem vtx_one {t c : Int} {k a : Nat} (hk : columnI t c = k) (ht : t = a) (R : Nat → Nat) (Lf : Nat → List Int) : (fun i : Nat => Lf i ++ vtx R i t c) = fun i => if i = a then Lf i ++ [((R k : Nat) : Int)] else Lf i := by
  subst ht
  funext i
  unfold vtx
  by_cases e : i = a
  · subst e
    rw [if_pos ⟨rfl, by omega⟩, if_pos rfl, hk, Int.toNat_natCast]
  · rw [if_neg (by rintro ⟨h, _⟩; omega), if_neg e, List.append_nil]
set_option maxHeartbeats 4000000 in
set_option maxRecDepth 100000 in
theorem gput_any (t c : Int) (u w : World) (bc be bs g h n : Nat) (R : Nat → Nat) (ms : Nat → Nat) (Lf : Nat → List Int) (hR : Least 128 R) (hL : ∀ i, (Lf i).length ≤ 100000) (s : Gs u w bc be bs g h n n R ms Lf) :
    ∃ Lf', (∀ i : Nat, i < n → Lf' i = Lf i ++ vtx R i t c) ∧ (∀ i, (Lf' i).length ≤ (Lf i).length + 1) ∧ Calls Try.prog 57 #[.int .i64 t, .int .i64 c, .pointer (some ⟨bc, 0, none⟩), .pointer (some ⟨be, 0, none⟩)] w (PutG u w bc be bs g h n R ms Lf') := by
  have HS := Lib.hid s
  have HC : Hid (∀ W, Gives Try.prog 25 #[.int .i64 t, .int .i64 c] W (.int .i64 (columnI t c))) := Lib.hid fun W => column_any t c W
  have HF : Hid (∀ W (x y : Int), findI 128 R x = y → UfS u g h 128 R W → Calls Try.prog 52 #[.pointer (some ⟨g, 0, none⟩), .int .i64 x] W fun e w' => e = .returned (.int .i64 y) ∧ UfS u g h 128 R w' ∧ Keep2 W w' g h) := Lib.hid fun W x y hx hW => uf_find x y u W g h 128 R hW hx
  clear s
  rcases columnI_lt t c with h1 | ⟨h1, h2⟩
  · refine ⟨Lf, fun i _ => by rw [columnI_neg h1, List.append_nil], fun i => Nat.le_succ _, ?_⟩
    rw [h1] at HC
    have HFi : Hid (findI 128 R (-1) = -1) := Lib.hid (by unfold findI; rw [if_neg (by omega)])
    have t1 : decide ((0 : Int) ≤ -1) = false := by decide
    clear h1 hL
    go_enter Try.func57, Try.ntmps57
    go_upto_region 0 with fail
    have hS0 := (HS.out.on (Grew.refl w).drew).cls
    have hU0 := HS.out.on (Grew.refl w).drew
    refine wp_region_S (fun W => Blok W bc 50 #[.pointer (some ⟨g, 0, none⟩)]) (by kernel_rfl) ?_
    refine held_take 0 (v := ?_) rfl (by kernel_rfl) (by kernel_rfl) (by kernel_rfl) (fun _ _ _ h => h) (by rfl) ?_ hS0 ?_
    rotate_left
    · (intro W hW; have q0 := hW.cell 0; have q1 := hW.lt; simp at q0; go_simp; with_reducible rfl)
    refine held_take 1 (v := ?_) rfl (by kernel_rfl) (by kernel_rfl) (by kernel_rfl) (fun _ _ _ h => h) (by rfl) ?_ hS0 ?_
    rotate_left
    · (intro W hW; have q0 := hW.cell 0; have q1 := hW.lt; simp at q0; go_simp; with_reducible rfl)
    refine held_take 2 (v := ?_) rfl (by kernel_rfl) (by kernel_rfl) (by kernel_rfl) (fun _ _ _ h => h) (by rfl) ?_ hS0 ?_
    rotate_left
    · (intro W hW; have q0 := hW.cell 0; have q1 := hW.lt; simp at q0; go_simp; with_reducible rfl)
    refine held_norm (a' := ?_) ?_ ?_
    rotate_left
    · (go_simp; with_reducible rfl)
    refine held_call 3 (by kernel_rfl) rfl (by rfl) (fun K hK => ?_)
    go_simp
    go_wp2_with ((go_at_call 25; (with_reducible refine (HC.out _).grows.mono ?_); rintro e5 w5 ⟨rfl, hg5⟩; have hS5 := hS0.grew hg5; have hU5 := hU0.on hg5))
    refine hK.out _ _ hS5 ?_
    clear hK K
    refine held_call 4 (by kernel_rfl) rfl (by rfl) (fun K hK => ?_)
    go_simp
    go_wp2_with ((go_at_call 52; (with_reducible refine (HF.out _ _ _ HFi.out hU5.uf).mono ?_); rintro e6 w6 ⟨rfl, hu6, hk6⟩; have hU6 := hU5.found hk6 hu6; have hS6 := hU6.cls))
    refine hK.out _ _ hS6 ?_
    clear hK K
    refine held_take 5 (v := ?_) rfl (by kernel_rfl) (by kernel_rfl) (by kernel_rfl) (fun _ _ _ h => h) (by rfl) ?_ hS6 ?_
    rotate_left
    · (intro W hW; go_simp; with_reducible rfl)
    refine held_norm (a' := ?_) ?_ ?_
    rotate_left
    · (go_simp; with_reducible rfl)
    refine held_done (by kernel_rfl) ?_
    have HU := Lib.hid hU6
    have HKp : Hid (KeptG w w6 g h) := Lib.hid fun b T cs n1 n2 hb => ((hb.grew (Grew.refl w).drew).grew hg5).keepB hk6 n1 n2
    clear hS0 hU0 hS5 hU5 hU6 hS6 hu6 hk6 hg5
    go_wp2
    exact bodyPost_ret (v := .tuple #[]) (by simp [results, Try.results57, go_sem]) rfl ⟨rfl, HU.out, HKp.out⟩
  · have h3 := columnI_low h1
    obtain ⟨a, rfl⟩ := Int.eq_ofNat_of_zero_le h3
    obtain ⟨k, hk⟩ := Int.eq_ofNat_of_zero_le h1
    have hk128 : k < 128 := by omega
    have HFi : Hid (findI 128 R k = (R k : Nat)) := Lib.hid (by unfold findI; rw [if_pos (by omega), Int.toNat_natCast])
    have hrk : R k < 128 := by have := hR.le k hk128; omega
    have HZ : Hid (wfI ((R k : Nat) : Int)) := Lib.hid (by
      have e1 : IntKind.i64.min = -9223372036854775808 := by decide
      have e2 : IntKind.i64.max = 9223372036854775807 := by decide
      unfold wfI
      simp only [Lit.wf, e1, e2, Bool.and_eq_true, decide_eq_true_eq]
      omega)
    have t1 : decide ((0 : Int) ≤ ((R k : Nat) : Int)) = true := decide_eq_true (by omega)
    by_cases ha : a < n
    · refine ⟨fun i => if i = a then Lf i ++ [((R k : Nat) : Int)] else Lf i, fun i _ => by rw [← vtx_one hk rfl R Lf], fun i => by dsimp only; split <;> simp, ?_⟩
      have ha' : (a : Int) < (n : Int) := by omega
      have HLa : Hid ((Lf a).length ≤ 1000000) := Lib.hid (by have := hL a; omega)
      rw [hk] at HC
      clear h1 h2 h3 hk hL hk128 hR
      generalize R k = pk at *
      go_enter Try.func57, Try.ntmps57
      go_upto_region 0 with fail
      have hS0 := (HS.out.on (Grew.refl w).drew).cls
      have hU0 := HS.out.on (Grew.refl w).drew
      refine wp_region_S (fun W => Blok W bc 50 #[.pointer (some ⟨g, 0, none⟩)]) (by kernel_rfl) ?_
      refine held_take 0 (v := ?_) rfl (by kernel_rfl) (by kernel_rfl) (by kernel_rfl) (fun _ _ _ h => h) (by rfl) ?_ hS0 ?_
      rotate_left
      · (intro W hW; have q0 := hW.cell 0; have q1 := hW.lt; simp at q0; go_simp; with_reducible rfl)
      refine held_take 1 (v := ?_) rfl (by kernel_rfl) (by kernel_rfl) (by kernel_rfl) (fun _ _ _ h => h) (by rfl) ?_ hS0 ?_
      rotate_left
      · (intro W hW; have q0 := hW.cell 0; have q1 := hW.lt; simp at q0; go_simp; with_reducible rfl)
      refine held_take 2 (v := ?_) rfl (by kernel_rfl) (by kernel_rfl) (by kernel_rfl) (fun _ _ _ h => h) (by rfl) ?_ hS0 ?_
      rotate_left
      · (intro W hW; have q0 := hW.cell 0; have q1 := hW.lt; simp at q0; go_simp; with_reducible rfl)
      refine held_norm (a' := ?_) ?_ ?_
      rotate_left
      · (go_simp; with_reducible rfl)
      refine held_call 3 (by kernel_rfl) rfl (by rfl) (fun K hK => ?_)
      go_simp
      go_wp2_with ((go_at_call 25; (with_reducible refine (HC.out _).grows.mono ?_); rintro e5 w5 ⟨rfl, hg5⟩; have hS5 := hS0.grew hg5; have hU5 := hU0.on hg5))
      refine hK.out _ _ hS5 ?_
      clear hK K
      refine held_call 4 (by kernel_rfl) rfl (by rfl) (fun K hK => ?_)
      go_simp
      go_wp2_with ((go_at_call 52; (with_reducible refine (HF.out _ _ _ HFi.out hU5.uf).mono ?_); rintro e6 w6 ⟨rfl, hu6, hk6⟩; have hU6 := hU5.found hk6 hu6; have hS6 := hU6.cls))
      refine hK.out _ _ hS6 ?_
      clear hK K
      refine held_take 5 (v := ?_) rfl (by kernel_rfl) (by kernel_rfl) (by kernel_rfl) (fun _ _ _ h => h) (by rfl) ?_ hS6 ?_
      rotate_left
      · (intro W hW; go_simp; with_reducible rfl)
      refine held_norm (a' := ?_) ?_ ?_
      rotate_left
      · (go_simp; with_reducible rfl)
      refine held_done (by kernel_rfl) ?_
      have HU := Lib.hid hU6
      have HKp : Hid (KeptG w w6 g h) := Lib.hid fun b T cs n1 n2 hb => ((hb.grew (Grew.refl w).drew).grew hg5).keepB hk6 n1 n2
      have q0 := hU6.edg.cell 0
      have q1 := hU6.edg.lt
      have q2 := hU6.row.cell a
      have q3 := hU6.row.lt
      rw [mapsV_at ha ha] at q2
      simp at q0
      clear hS0 hU0 hS5 hU5 hU6 hS6 hu6 hk6 hg5
      go_wp2_with (at_mapUpdate; refine wpList_sput rfl _ _ _ rfl rfl (HU.out.maps a ha) HLa.out _ HZ.out rfl rfl ?_; intro w9 hs9 hg9; have HS9 := Lib.hid (HU.out.put ha hs9 hg9); have HKq : Hid (KeptG w w9 g h) := Lib.hid fun b T cs n1 n2 hb => (HU.out.maps a ha).cells hg9 (HKp.out b T cs n1 n2 hb); clear hs9 hg9)
      exact bodyPost_ret (v := .tuple #[]) (by simp [results, Try.results57, go_sem]) rfl ⟨rfl, HS9.out, HKq.out⟩
    · refine ⟨Lf, fun i hi => ?_, fun i => Nat.le_succ _, ?_⟩
      · unfold vtx
        rw [if_neg (by rintro ⟨h, _⟩; omega), List.append_nil]
      have ha' : decide ((a : Int) < (n : Int)) = false := decide_eq_false (by omega)
      rw [hk] at HC
      clear h1 h2 h3 hk hL hk128 hR HZ
      generalize R k = pk at *
      go_enter Try.func57, Try.ntmps57
      go_upto_region 0 with fail
      have hS0 := (HS.out.on (Grew.refl w).drew).cls
      have hU0 := HS.out.on (Grew.refl w).drew
      refine wp_region_S (fun W => Blok W bc 50 #[.pointer (some ⟨g, 0, none⟩)]) (by kernel_rfl) ?_
      refine held_take 0 (v := ?_) rfl (by kernel_rfl) (by kernel_rfl) (by kernel_rfl) (fun _ _ _ h => h) (by rfl) ?_ hS0 ?_
      rotate_left
      · (intro W hW; have q0 := hW.cell 0; have q1 := hW.lt; simp at q0; go_simp; with_reducible rfl)
      refine held_take 1 (v := ?_) rfl (by kernel_rfl) (by kernel_rfl) (by kernel_rfl) (fun _ _ _ h => h) (by rfl) ?_ hS0 ?_
      rotate_left
      · (intro W hW; have q0 := hW.cell 0; have q1 := hW.lt; simp at q0; go_simp; with_reducible rfl)
      refine held_take 2 (v := ?_) rfl (by kernel_rfl) (by kernel_rfl) (by kernel_rfl) (fun _ _ _ h => h) (by rfl) ?_ hS0 ?_
      rotate_left
      · (intro W hW; have q0 := hW.cell 0; have q1 := hW.lt; simp at q0; go_simp; with_reducible rfl)
      refine held_norm (a' := ?_) ?_ ?_
      rotate_left
      · (go_simp; with_reducible rfl)
      refine held_call 3 (by kernel_rfl) rfl (by rfl) (fun K hK => ?_)
      go_simp
      go_wp2_with ((go_at_call 25; (with_reducible refine (HC.out _).grows.mono ?_); rintro e5 w5 ⟨rfl, hg5⟩; have hS5 := hS0.grew hg5; have hU5 := hU0.on hg5))
      refine hK.out _ _ hS5 ?_
      clear hK K
      refine held_call 4 (by kernel_rfl) rfl (by rfl) (fun K hK => ?_)
      go_simp
      go_wp2_with ((go_at_call 52; (with_reducible refine (HF.out _ _ _ HFi.out hU5.uf).mono ?_); rintro e6 w6 ⟨rfl, hu6, hk6⟩; have hU6 := hU5.found hk6 hu6; have hS6 := hU6.cls))
      refine hK.out _ _ hS6 ?_
      clear hK K
      refine held_take 5 (v := ?_) rfl (by kernel_rfl) (by kernel_rfl) (by kernel_rfl) (fun _ _ _ h => h) (by rfl) ?_ hS6 ?_
      rotate_left
      · (intro W hW; go_simp; with_reducible rfl)
      refine held_norm (a' := ?_) ?_ ?_
      rotate_left
      · (go_simp; with_reducible rfl)
      refine held_done (by kernel_rfl) ?_
      have HU := Lib.hid hU6
      have HKp : Hid (KeptG w w6 g h) := Lib.hid fun b T cs n1 n2 hb => ((hb.grew (Grew.refl w).drew).grew hg5).keepB hk6 n1 n2
      have q0 := hU6.edg.cell 0
      have q1 := hU6.edg.lt
      simp at q0
      clear hS0 hU0 hS5 hU5 hU6 hS6 hu6 hk6 hg5
      go_wp2
      exact bodyPost_ret (v := .tuple #[]) (by simp [results, Try.results57, go_sem]) rfl ⟨rfl, HU.out, HKp.out⟩
end Go.Proofs.Ytchogpdfdpbpfaa

/- Layer 21: a query's hypergraph, by the program. Condition: edges that lie in memory that is there, no more than a thousand. -/
namespace Go.Proofs.Ytchogpdfdpbpfaa
open Go.RowKit
attribute [local go_sem] more_cell more_frozen more_more more_setCell more_of_drew more_of_drewN lt_more le_more past_cell past_cell2 past_frozen past_frozen2 past_setCell past_setCell2 mid_cell mid_frozen mid_setCell
attribute [local go_sem ↓] Go.wp_at_zero Go.wp_at_succ

theorem infoSet : (Try.prog.info? 89).map (fun i => (i.zero, i.size, i.bytes)) = some (some (.map none), 1, 8) := by kernel_rfl
theorem made_maps (n : Nat) (ms : Nat → Nat) : madeCells #[.map none] n = mapsV n 0 ms := by
  apply Array.ext'
  rw [toList_madeCells_one]
  unfold mapsV
  apply List.ext_getElem?
  intro i
  by_cases h : i < n
  · simp [h]
  · simp [h]
def G1At (u : World) (bc be bs g h n : Nat) (R : Nat → Nat) (i : Value) (wr : World) : Prop := ∃ (q : Nat) (ms : Nat → Nat), q ≤ n ∧ i = .int .i64 q ∧ Gs u wr bc be bs g h n q R ms (fun _ => [])
def G2At (u : World) (bc be bs g h n : Nat) (R ms : Nat → Nat) (l : List Ed) (i : Value) (wr : World) : Prop := ∃ (q : Nat) (Lf : Nat → List Int), q ≤ l.length ∧ i = .int .i64 q ∧ Gs u wr bc be bs g h n n R ms Lf ∧ (∀ i : Nat, i < n → Lf i = vtxs R i (l.take q)) ∧ ∀ i, (Lf i).length ≤ 2 * q
def G3At (u : World) (n : Nat) (G : List (List Int)) (v i : Value) (wr : World) : Prop := ∃ (t : Nat) (A : Option Addr) (c : Nat) (css : List (List Value)), t ≤ n ∧ v = .slice A t c ∧ i = .int .i64 t ∧ GatG u u.heap.size (G.take t) A c css wr
theorem vtxA_eq (R : Nat → Nat) (t : Int) (e : Ed) : vtxA R t e = vtx R t e.a e.ac := rfl
theorem vtxB_eq (R : Nat → Nat) (t : Int) (e : Ed) : vtxB R t e = vtx R t e.b e.bc := rfl
theorem vtxs_wf (R : Nat → Nat) (hR : Least 128 R) (t : Int) (l : List Ed) : wfL (vtxs R t l) := by
  have e1 : IntKind.i64.min = -9223372036854775808 := by decide
  have e2 : IntKind.i64.max = 9223372036854775807 := by decide
  have H : ∀ i c, ∀ x ∈ vtx R t i c, wfI x := by
    intro i c x hx
    unfold vtx at hx
    split at hx
    · rename_i h
      simp only [List.mem_singleton] at hx
      subst hx
      have h3 := columnI_lt t c
      have h4 := hR.le (columnI t c).toNat (by omega)
      unfold wfI
      simp only [Lit.wf, e1, e2, Bool.and_eq_true, decide_eq_true_eq]
      omega
    · cases hx
  intro x hx
  unfold vtxs at hx
  rw [List.mem_flatten] at hx
  obtain ⟨m, hm, hx⟩ := hx
  obtain ⟨e, _, rfl⟩ := List.mem_map.1 hm
  rcases List.mem_append.1 hx with hx | hx
  · exact H _ _ x hx
  · exact H _ _ x hx
set_option maxHeartbeats 16000000 in
set_option maxRecDepth 100000 in
theorem graph_any (core : Int) (l : List Ed) (A : Option Addr) (n k : Nat) (B : Option Addr) (j : Nat) (C : Option Addr) (p c : Nat) (D : Option Addr) (dn d : Nat) (E : Option Addr) (q e : Nat) (w : World)
    (h2 : EdsR (PRow w) B l) (he : l.length ≤ 3000) (hn : n ≤ 1000) :
    Calls Try.prog 31 #[.agg (nqC core A n k B l.length j C p c D dn d E q e)] w (GridF w (graphG (clsE l) n l)) := by
  have H2 := Lib.hid h2
  have HCl : Hid (∀ W, Grew w W → Calls Try.prog 21 #[.agg #[.int .i64 core, .slice A n k, .slice B l.length j, .slice C p c, .slice D dn d, .slice E q e]] W (ClsF W l)) := Lib.hid fun W hW => classes_any core l A n k B j C p c D dn d E q e W (h2.grew hW) he
  obtain ⟨Rf, hRf⟩ : ∃ R, clsE l = R := ⟨_, rfl⟩
  have HLe : Hid (Least 128 Rf) := Lib.hid (by rw [← hRf]; exact clsE_le l)
  unfold ClsF at HCl
  rw [hRf] at HCl ⊢
  obtain ⟨i0, hi, hz0, hz1, hz2⟩ := info_parts infoSet
  have HI := Lib.hid hi
  have HI0 := Lib.hid hz0
  have HI1 := Lib.hid hz1
  have HI2 := Lib.hid hz2
  obtain ⟨i1, hj, hy0, hy1, hy2⟩ := info_parts infoL21
  have HJ := Lib.hid hj
  have HJ0 := Lib.hid hy0
  have HJ1 := Lib.hid hy1
  have HJ2 := Lib.hid hy2
  clear hj hy0 hy1 hy2
  have hmm := @run_makeMap Try.prog
  clear h2 hRf hi hz0 hz1 hz2
  unfold nqC
  go_enter Try.func31, Try.ntmps31
  go_upto_region 1 with fail
  have HB : Hid (Blok (w.alloc (.cells #[.int .i64 core, .slice A n k, .slice B l.length j, .slice C p c, .slice D dn d, .slice E q e] 44)) w.heap.size 44 #[.int .i64 core, .slice A n k, .slice B l.length j, .slice C p c, .slice D dn d, .slice E q e]) := Lib.hid (Blok.new _ _ _ _ rfl)
  have HG0 : Hid (Grew w (w.alloc (.cells #[.int .i64 core, .slice A n k, .slice B l.length j, .slice C p c, .slice D dn d, .slice E q e] 44))) := Lib.hid ((Grew.refl w).alloc _)
  generalize (w.alloc (.cells #[.int .i64 core, .slice A n k, .slice B l.length j, .slice C p c, .slice D dn d, .slice E q e] 44)) = W1 at *
  obtain ⟨bq, hbq⟩ : ∃ b, w.heap.size = b := ⟨_, rfl⟩
  rw [hbq] at HB ⊢
  clear hbq
  obtain ⟨xl, x0, x1, x2, x3, x4, x5⟩ := nm_in HB.out
  go_upto_region 2 with (go_at_call 21; (with_reducible refine (HCl.out _ HG0.out).mono ?_); rintro e2 w2 ⟨g, h, rfl, hs2⟩)
  have HS2 := Lib.hid hs2
  obtain ⟨bc, hbc⟩ : ∃ b, w2.heap.size = b := ⟨_, rfl⟩
  have HLow : Hid (g < bc ∧ h < bc ∧ W1.heap.size ≤ bc) := Lib.hid (by have := hs2.lt; have := hs2.grew.size; omega)
  have HC3 : Hid (Blok (w2.alloc (.cells #[.pointer (some ⟨g, 0, none⟩)] 50)) bc 50 #[.pointer (some ⟨g, 0, none⟩)]) := Lib.hid (Blok.new _ _ _ _ hbc.symm)
  have HU3 : Hid (UfS W1 g h 128 Rf (w2.alloc (.cells #[.pointer (some ⟨g, 0, none⟩)] 50))) := Lib.hid (hs2.on ((Grew.refl w2).alloc _))
  have hsz : (w2.alloc (.cells #[.pointer (some ⟨g, 0, none⟩)] 50)).heap.size = bc + 1 := by rw [World.size_alloc, hbc]
  have hsz := Lib.hid hsz
  rw [hbc]
  clear hs2 HS2 hbc xl x0 x1 x2 x3 x4 x5 HCl
  generalize (w2.alloc (.cells #[.pointer (some ⟨g, 0, none⟩)] 50)) = w3 at *
  obtain ⟨xl, x0, x1, x2, x3, x4, x5⟩ := nm_in (HB.out.grew HU3.out.grew)
  go_upto_region 3 with (at_make; refine wpList_make_row _ rfl _ _ 87 rfl 89 i0 (.map none) Try.underlying87 HI.out HI0.out HI1.out rfl _ _ n rfl rfl (by rw [HI2.out]; omega) (by omega) ?_)
  have HGs : Hid (Gs W1 ((w3.alloc (.cells (madeCells #[.map none] n) 89)).alloc (.cells #[.slice (some ⟨bc + 1, 0, none⟩) n n] 87)) bc (bc + 1 + 1) (bc + 1) g h n 0 Rf (fun _ => 0) (fun _ => [])) := Lib.hid (by
    obtain ⟨l1, l2, l3⟩ := HLow.out
    have hs := hsz.out
    refine ⟨(HC3.out.alloc _).alloc _, Blok.new _ _ _ _ (by rw [World.size_alloc, hs]), ?_, fun i hi => absurd hi (by omega), fun i _ hi => absurd hi (by omega), fun i hi => absurd hi (by omega), ⟨l1, l2, by omega, by omega, l3⟩, (HU3.out.on ((Grew.refl w3).alloc _)).on ((Grew.refl _).alloc _)⟩
    rw [← made_maps n (fun _ => 0)]
    exact (Blok.new _ _ _ _ hs.symm).alloc _)
  clear HC3 HU3 HI HI0 HI1 HI2 xl x0 x1 x2 x3 x4 x5 HLow hsz
  generalize ((w3.alloc (.cells (madeCells #[.map none] n) 89)).alloc (.cells #[.slice (some ⟨bc + 1, 0, none⟩) n n] 87)) = w4 at *
  generalize bc + 1 + 1 = be at *
  generalize bc + 1 = bs at *
  have q0 := HGs.out.edg.cell 0
  have q1 := HGs.out.edg.lt
  simp at q0
  go_wp2_with fail
  clear q0 q1
  go_loopw [20] (fun i wr => G1At W1 bc be bs g h n Rf i wr) (fun i _ => n - (intOf i).toNat)
  case atStart => exact ⟨0, _, Nat.zero_le _, rfl, HGs.out⟩
  case round =>
    obtain ⟨t, ms, ht, rfl, hs⟩ := hrel
    have HS := Lib.hid hs
    have q0 := hs.edg.cell 0
    have q1 := hs.edg.lt
    have q2 := hs.row.lt
    have q3 := hs.row.thaw t
    have q4 := hs.row.cell t
    simp at q0
    clear hs
    by_cases hlt : t < n
    · have q5 : wr.cell? ⟨bs, t, none⟩ = some (.map none) := by
        rw [q4]
        unfold mapsV
        simp [hlt]
      have HM := Lib.hid (HS.out.made q1)
      have HFe : Hid ((fun i => if i = t then ([] : List Int) else []) = fun _ => []) := Lib.hid (by funext i; split <;> rfl)
      rw [HFe.out, alloc_setCell _ _ _ _ q2] at HM
      clear q4
      go_wp2
      exact ⟨⟨t + 1, _, by omega, by go_num, HM.out⟩, by simp only [intOf]; omega⟩
    · obtain rfl : t = n := by omega
      clear q2 q3 q4 HGs
      obtain ⟨xl, x0, x1, x2, x3, x4, x5⟩ := nm_in (HB.out.grew HS.out.uf.grew)
      go_wp2_with fail
      clear xl x0 x1 x2 x3 x4 x5 q0 q1
      go_loopw [32] (fun i wr => G2At W1 bc be bs g h t Rf ms l i wr) (fun i _ => l.length - (intOf i).toNat)
      case atStart => exact ⟨0, _, Nat.zero_le _, rfl, HS.out, fun i _ => by rw [List.take_zero]; rfl, fun i => Nat.le_refl _⟩
      case round =>
        obtain ⟨i, Lf, hi, rfl, hs, hLf, hLn⟩ := hrel
        have HS2 := Lib.hid hs
        have HLf := Lib.hid hLf
        have HLn := Lib.hid hLn
        have hg := hs.uf.grew
        clear hs hLf hLn HS
        by_cases hlt : i < l.length
        · have HT := Lib.hid (fun a => vtxs_take Rf a l hlt)
          obtain ⟨b, o, rfl, hb0, a0, a1, a2, a3⟩ := edsR_at ((H2.out.grew HG0.out).grew hg) hlt
          clear hg
          generalize l[i] = y at *
          go_upto_region 12 with fail
          have HBe : Hid (Blok (wr.alloc (.cells #[.int .i64 y.a, .int .i64 y.ac, .int .i64 y.b, .int .i64 y.bc] 34)) wr.heap.size 34 #[.int .i64 y.a, .int .i64 y.ac, .int .i64 y.b, .int .i64 y.bc]) := Lib.hid (Blok.new _ _ _ _ rfl)
          have HS4 : Hid (Gs W1 (wr.alloc (.cells #[.int .i64 y.a, .int .i64 y.ac, .int .i64 y.b, .int .i64 y.bc] 34)) bc be bs g h t t Rf ms Lf) := Lib.hid (HS2.out.on ((Grew.refl wr).alloc _))
          have HNe : Hid (wr.heap.size ≠ g ∧ wr.heap.size ≠ h) := Lib.hid (by have := HS2.out.uf.lt; omega)
          clear hb0 a0 a1 a2 a3 HS2
          generalize (wr.alloc (.cells #[.int .i64 y.a, .int .i64 y.ac, .int .i64 y.b, .int .i64 y.bc] 34)) = W4 at *
          generalize wr.heap.size = bx at *
          obtain ⟨L1, hl1, hn1, hc1⟩ := gput_any y.a y.ac W1 W4 bc be bs g h t Rf ms Lf HLe.out (fun a => by have := HLn.out a; omega) HS4.out
          have HC1 := Lib.hid hc1
          have HL1 := Lib.hid hl1
          have HN1 := Lib.hid hn1
          clear hc1 hl1 hn1
          obtain ⟨r0, d0, d1, d2, d3, _, _, _, _⟩ := ed_in HBe.out
          go_upto_region 13 with (go_at_call 57; (with_reducible refine HC1.out.mono ?_); rintro e5 w5 ⟨rfl, hs5, hk5⟩)
          have HB5 := Lib.hid (hk5 _ _ _ HNe.out.1 HNe.out.2 HBe.out)
          obtain ⟨L2, hl2, hn2, hc2⟩ := gput_any y.b y.bc W1 w5 bc be bs g h t Rf ms L1 HLe.out (fun a => by have := HLn.out a; have := HN1.out a; omega) hs5
          have HC2 := Lib.hid hc2
          have HL2 := Lib.hid hl2
          have HN2 := Lib.hid hn2
          clear hc2 hl2 hn2 hs5 hk5 r0 d0 d1 d2 d3
          obtain ⟨r0, d0, d1, d2, d3, _, _, _, _⟩ := ed_in HB5.out
          go_wp2_with (go_at_call 57; (with_reducible refine HC2.out.mono ?_); rintro e6 w6 ⟨rfl, hs6, _⟩; have HS6 := Lib.hid hs6; clear hs6)
          exact ⟨⟨i + 1, L2, by omega, by go_num, HS6.out, fun a ha => by rw [HL2.out a ha, HL1.out a ha, HLf.out a ha, HT.out, vtxA_eq, vtxB_eq], fun a => by have := HLn.out a; have := HN1.out a; have := HN2.out a; omega⟩, by simp only [intOf]; omega⟩
        · obtain rfl : i = l.length := by omega
          rw [List.take_length] at HLf
          have q0 := HS2.out.edg.cell 0
          have q1 := HS2.out.edg.lt
          simp at q0
          clear HLn
          go_upto_region 16 with (at_make; refine wpList_make_cap _ rfl _ _ 59 rfl 37 i1 (.slice none 0 0) Try.underlying59 HJ.out HJ0.out HJ1.out rfl _ _ t rfl rfl (by rw [HJ2.out]; omega) (by omega) ?_)
          obtain ⟨wF, rfl⟩ : ∃ wo : World, wo = wr := ⟨_, rfl⟩
          have HO1 : Hid ((wF.alloc (.cells (madeCells #[.slice none 0 0] t) 37)).ownsRow wF.heap.size 37 1 (.slice (some ⟨wF.heap.size, 0, none⟩) 0 t) 0 []) := Lib.hid ⟨rfl, Or.inr ⟨wF.heap.size, t, madeCells #[.slice none 0 0] t, rfl, Nat.le_refl _, heap_alloc_new wF _, Nat.zero_le _, by unfold maxLen; omega, by simp [size_madeCells], by simp⟩⟩
          have HSF : Hid (Gs W1 (wF.alloc (.cells (madeCells #[.slice none 0 0] t) 37)) bc be bs g h t t Rf ms Lf) := Lib.hid (HS2.out.on ((Grew.refl wF).alloc _))
          have H0 : Hid (G3At wF t (graphG Rf t l) (.slice (some ⟨wF.heap.size, 0, none⟩) 0 t) (.int .i64 0) (wF.alloc (.cells (madeCells #[.slice none 0 0] t) 37))) := Lib.hid ⟨0, _, _, [], Nat.zero_le _, rfl, rfl, (Grew.refl wF).alloc _, HO1.out, .nil⟩
          have HSg : Hid (Grew wF (wF.alloc (.cells (madeCells #[.slice none 0 0] t) 37))) := Lib.hid ((Grew.refl wF).alloc _)
          have q0 := HSF.out.edg.cell 0
          have q1 := HSF.out.edg.lt
          simp at q0
          clear HO1 HJ HJ0 HJ1 HJ2
          generalize wF.alloc (.cells (madeCells #[.slice none 0 0] t) 37) = w6 at *
          go_wp2_with fail
          clear q0 q1
          go_loopw [9, 54] (fun v i wr => G3At wF t (graphG Rf t l) v i wr) (fun _ i _ => t - (intOf i).toNat)
          case atStart => exact H0.out
          case round =>
            obtain ⟨j, A1, c1, css, hj, rfl, rfl, hG⟩ := hrel
            have HG := Lib.hid hG
            have hs := HS2.out.on hG.grew
            clear hG H0 HSF HSg
            by_cases h1 : j < t
            · have q2 := hs.row.cell j
              have q3 := hs.row.lt
              rw [mapsV_at h1 h1] at q2
              have hlf := HLf.out j h1
              have HMp := Lib.hid (hs.maps j h1)
              have hvl := vtxs_len Rf j l
              rw [hlf] at HMp
              have HR : Hid (∀ W, SetL W (ms j) (vtxs Rf j l) → Calls Try.prog 58 #[.map (some (ms j))] W (OwnI W (setI (vtxs Rf j l)))) := Lib.hid fun W hW => rising_any (ms j) (vtxs Rf j l) (vtxs_wf Rf HLe.out j l) (by omega) W hW
              have HT : Hid ((graphG Rf t l).take (j + 1) = (graphG Rf t l).take j ++ [setI (vtxs Rf j l)]) := Lib.hid (by
                have h2 : j < (graphG Rf t l).length := by rw [graphG_len]; exact h1
                rw [List.take_succ_eq_append_getElem h2]
                simp [graphG])
              have HLn : Hid (((graphG Rf t l).take j).length = j) := Lib.hid (by rw [List.length_take, graphG_len]; omega)
              clear hs hlf hvl
              generalize setI (vtxs Rf j l) = m at *
              go_wp2_with (first | (go_at_call 58; (with_reducible refine (HR.out _ HMp.out).mono ?_); rintro e w7 ⟨A6, k6, rfl, hg6, ho6⟩; have HG6 := Lib.hid (HG.out.on hg6); have HO6 := Lib.hid (own_le ho6 HG.out.grew.size); clear hg6 ho6) | (at_builtin; refine wpList_appB rfl _ _ 59 37 1 rfl wF.heap.size (.slice none 0 0) 24 Try.underlying59 infoL21 rfl (by decide) (by decide) _ j css.flatten rfl (by have := own_alloc HG6.out.own (.cells #[.slice A6 m.length k6] 37); rw [HLn.out] at this; exact this) _ 1 1 [.slice A6 m.length k6] rfl rfl (row_one _ _ _ _ rfl) (by simp [Value.oneCell']) (by omega) (by rw [World.size_alloc]; have := HG6.out.grew.size; omega) ?_; intro A9 c9 w9 ho9 hg9; have HF := Lib.hid ((HG6.out.on ((Grew.refl _).alloc (.cells #[.slice A6 m.length k6] 37))).snoc (x := m) (v := .slice A6 m.length k6) (Nat.le_refl _) ⟨A6, k6, rfl, MRow.own (own_alloc HO6.out _)⟩ (by rw [HLn.out]; exact ho9) (by rw [HLn.out]; exact hg9)); clear ho9 hg9))
              exact ⟨⟨j + 1, A9, c9, _, by omega, rfl, by go_num, by rw [HT.out]; exact HF.out⟩, by simp only [intOf]; omega⟩
            · obtain rfl : j = t := by omega
              have HF : Hid (GridF w (graphG Rf j l) (.returned (.slice A1 j c1)) wr) := Lib.hid (by
                have := HG.out.done
                rw [List.take_of_length_le (by rw [graphG_len]; exact Nat.le_refl _)] at this
                exact ⟨A1, c1, by rw [graphG_len], (HG0.out.trans HS2.out.uf.grew).trans HG.out.grew, this⟩)
              go_wp2
              go_ret
              exact HF.out
end Go.Proofs.Ytchogpdfdpbpfaa

/- Layer 21: each vertex of a query's hypergraph is of two tables at least. No condition. -/
namespace Go.Proofs.Ytchogpdfdpbpfaa
open Go.RowKit

theorem joinR_a (r : Nat → Nat) (a b : Nat) : joinR r (r a) (r b) a = min (r a) (r b) := by
  unfold joinR
  split <;> omega
theorem joinR_b (r : Nat → Nat) (a b : Nat) : joinR r (r a) (r b) b = min (r a) (r b) := by
  unfold joinR
  split <;> omega
theorem joinI_keeps (n : Nat) (r : Nat → Nat) (a b : Int) {x y : Nat} (h : r x = r y) : joinI n r a b x = joinI n r a b y := by
  unfold joinI
  split
  · unfold joinR
    rw [h]
  · exact h
def foldE (l : List Ed) (r : Nat → Nat) : Nat → Nat := l.foldl (fun r e => joinI 128 r (columnI e.a e.ac) (columnI e.b e.bc)) r
theorem foldE_keeps (l : List Ed) : ∀ (r : Nat → Nat) {x y : Nat}, r x = r y → foldE l r x = foldE l r y := by
  induction l with
  | nil => intro r x y h; exact h
  | cons e l ih => intro r x y h; exact ih _ (joinI_keeps _ _ _ _ h)
theorem foldE_joins (l : List Ed) : ∀ (r : Nat → Nat) (e : Ed), e ∈ l → 0 ≤ columnI e.a e.ac → 0 ≤ columnI e.b e.bc → foldE l r (columnI e.a e.ac).toNat = foldE l r (columnI e.b e.bc).toNat := by
  induction l with
  | nil => intro r e h; cases h
  | cons d l ih =>
    intro r e h ha hb
    rcases List.mem_cons.1 h with rfl | h
    · refine foldE_keeps l _ ?_
      have h1 := columnI_lt e.a e.ac
      have h2 := columnI_lt e.b e.bc
      have hin : inB 128 (columnI e.a e.ac) (columnI e.b e.bc) := by unfold inB; omega
      show joinI 128 r (columnI e.a e.ac) (columnI e.b e.bc) _ = joinI 128 r (columnI e.a e.ac) (columnI e.b e.bc) _
      unfold joinI
      rw [if_pos hin, joinR_a, joinR_b]
    · exact ih _ e h ha hb
theorem clsE_joins (l : List Ed) {e : Ed} (h : e ∈ l) (ha : 0 ≤ columnI e.a e.ac) (hb : 0 ≤ columnI e.b e.bc) : clsE l (columnI e.a e.ac).toNat = clsE l (columnI e.b e.bc).toNat := foldE_joins l id e h ha hb
theorem degI_two {h : List (List Int)} {v : Int} {i j : Nat} (hij : i < j) (hj : j < h.length) (hi : v ∈ h[i]) (hv : v ∈ h[j]) : 2 ≤ degI h v := by
  have h1 := degI_in hj hv
  have h2 : 1 ≤ degI (h.take j) v := by
    unfold degI
    refine List.length_pos_of_mem (a := h[i]) (List.mem_filter.2 ⟨?_, by simpa using hi⟩)
    exact List.mem_take_iff_getElem.2 ⟨i, by omega, rfl⟩
  have h3 : degI (h.take (j + 1)) v ≤ degI h v := by
    have e : degI h v = degI (h.take (j + 1)) v + degI (h.drop (j + 1)) v := by
      unfold degI
      rw [← List.length_append, ← List.filter_append, List.take_append_drop]
    omega
  omega
theorem vtxs_mem {R : Nat → Nat} {t : Int} {l : List Ed} {v : Int} : v ∈ vtxs R t l ↔ ∃ e ∈ l, v ∈ vtxA R t e ∨ v ∈ vtxB R t e := by
  unfold vtxs
  rw [List.mem_flatten]
  constructor
  · rintro ⟨m, hm, hv⟩
    obtain ⟨e, he, rfl⟩ := List.mem_map.1 hm
    exact ⟨e, he, List.mem_append.1 hv⟩
  · rintro ⟨e, he, hv⟩
    exact ⟨_, List.mem_map.2 ⟨e, he, rfl⟩, List.mem_append.2 hv⟩
theorem graphG_at (R : Nat → Nat) (n : Nat) (l : List Ed) {i : Nat} (h : i < n) : (graphG R n l)[i]'(by rw [graphG_len]; exact h) = setI (vtxs R i l) := by simp [graphG]
/-- What an edge of a query is. -/
def okE (n : Nat) (e : Ed) : Prop := e.a ≠ e.b ∧ (0 ≤ e.a ∧ e.a < n) ∧ (0 ≤ e.b ∧ e.b < n)
theorem deg_ge {n : Nat} {l : List Ed} (hl : ∀ e ∈ l, okE n e) (hc : ∀ e ∈ l, 0 ≤ columnI e.a e.ac ∧ 0 ≤ columnI e.b e.bc) {v : Int} (hv : v ∈ setI (graphG (clsE l) n l).flatten) : 2 ≤ degI (graphG (clsE l) n l) v := by
  rw [setI_mem, List.mem_flatten] at hv
  obtain ⟨m, hm, hv⟩ := hv
  unfold graphG at hm
  obtain ⟨t, ht, rfl⟩ := List.mem_map.1 hm
  rw [setI_mem, vtxs_mem] at hv
  obtain ⟨e, he, hv⟩ := hv
  obtain ⟨o1, ⟨o2, o3⟩, o4, o5⟩ := hl e he
  obtain ⟨c1, c2⟩ := hc e he
  have hj := clsE_joins l he c1 c2
  have hva : v = ((clsE l (columnI e.a e.ac).toNat : Nat) : Int) := by
    rcases hv with hv | hv
    · unfold vtxA at hv
      split at hv
      · rename_i h
        rw [← h.1] at hv
        simpa using hv
      · cases hv
    · unfold vtxB at hv
      split at hv
      · rename_i h
        rw [← h.1] at hv
        rw [hj]
        simpa using hv
      · cases hv
  have ha : v ∈ setI (vtxs (clsE l) e.a l) := by
    rw [setI_mem, vtxs_mem]
    refine ⟨e, he, Or.inl ?_⟩
    unfold vtxA
    rw [if_pos ⟨rfl, c1⟩, hva]
    simp
  have hb : v ∈ setI (vtxs (clsE l) e.b l) := by
    rw [setI_mem, vtxs_mem]
    refine ⟨e, he, Or.inr ?_⟩
    unfold vtxB
    rw [if_pos ⟨rfl, c2⟩, hva, hj]
    simp
  have e1 : ((e.a.toNat : Nat) : Int) = e.a := Int.toNat_of_nonneg o2
  have e2 : ((e.b.toNat : Nat) : Int) = e.b := Int.toNat_of_nonneg o4
  have ha' : v ∈ (graphG (clsE l) n l)[e.a.toNat]'(by rw [graphG_len]; omega) := by rw [graphG_at _ _ _ (by omega), e1]; exact ha
  have hb' : v ∈ (graphG (clsE l) n l)[e.b.toNat]'(by rw [graphG_len]; omega) := by rw [graphG_at _ _ _ (by omega), e2]; exact hb
  rcases (by omega : e.a.toNat < e.b.toNat ∨ e.b.toNat < e.a.toNat) with h | h
  · exact degI_two h (by rw [graphG_len]; omega) ha' hb'
  · exact degI_two h (by rw [graphG_len]; omega) hb' ha'
theorem colsE_in {y : Ex} : ∀ {l : List Ex}, y ∈ l → y.op = 15 → y ∈ colsE l := by
  intro l
  induction l with
  | nil => intro h; cases h
  | cons z l ih =>
    intro h hp
    have e : colsE (z :: l) = z.cols ++ colsE l := by simp [colsE]
    rw [e, List.mem_append]
    rcases List.mem_cons.1 h with rfl | h
    · left
      rw [cols_in hp]
      simp
    · exact Or.inr (ih h hp)
theorem edge_ok {x : Ex} {core : Nat} (h : whereI x core = 3) : okE core (edgeP x).1 := by
  unfold whereI at h
  split at h
  · omega
  · rename_i ho
    split at h
    · omega
    · split at h
      · rename_i he
        have ho' : ∀ t ∈ useX x, 0 ≤ t ∧ t < (core : Int) := by
          intro t ht
          have := ho
          unfold outI at this
          simp only [List.any_eq_true, not_exists, not_and] at this
          have := this t ht
          simp only [decide_eq_true_eq] at this
          omega
        by_cases h1 : x.op = 1
        · by_cases h2 : x.l.length = 2
          · have hcol : x.cols = colsE x.l := cols_out (by omega)
            have hm : ∀ y ∈ x.l, y.op = 15 → y.t ∈ useX x := fun y hy hp => by
              unfold useX
              rw [setI_mem, hcol]
              exact List.mem_map.2 ⟨y, colsE_in hy hp, rfl⟩
            rw [edgeP_two h1 h2] at he ⊢
            by_cases hc : (x.l[0]'(by omega)).op = 15 ∧ (x.l[1]'(by omega)).op = 15 ∧ ¬ (x.l[0]'(by omega)).t = (x.l[1]'(by omega)).t
            · rw [if_pos hc] at he ⊢
              have q1 := ho' _ (hm _ (List.getElem_mem (by omega)) hc.1)
              have q2 := ho' _ (hm _ (List.getElem_mem (by omega)) hc.2.1)
              have q3 := hc.2.2
              generalize x.l[0] = ya at *
              generalize x.l[1] = yb at *
              unfold okE
              by_cases hlt : ya.t < yb.t
              · rw [if_pos hlt]
                exact ⟨q3, q1, q2⟩
              · rw [if_neg hlt]
                exact ⟨fun e => q3 e.symm, q2, q1⟩
            · rw [if_neg hc] at he
              cases he
          · rw [edgeP_len h2] at he
            cases he
        · rw [edgeP_op h1] at he
          cases he
      · omega
theorem nE_ok {core : Nat} {l : List Ex} : ∀ e ∈ nE core l, okE core e := by
  intro e he
  unfold nE at he
  obtain ⟨x, hx, rfl⟩ := List.mem_map.1 he
  exact edge_ok (by simpa using (List.mem_filter.1 hx).2)
end Go.Proofs.Ytchogpdfdpbpfaa

/- Layer 21: the law GraphOfs, walked. Condition: a query that lies in memory that is there. -/
namespace Go.Proofs.Ytchogpdfdpbpfaa
open Go.RowKit
attribute [local go_sem] more_cell more_frozen more_more more_setCell more_of_drew more_of_drewN lt_more le_more past_cell past_cell2 past_frozen past_frozen2 past_setCell past_setCell2 mid_cell mid_frozen mid_setCell
attribute [local go_sem ↓] Go.wp_at_zero Go.wp_at_succ

def LeAt (u : World) (l : List Ed) (i : Value) (wr : World) : Prop := ∃ q : Nat, q ≤ l.length ∧ i = .int .i64 q ∧ Grew u wr ∧ ∀ e ∈ l.take q, 0 ≤ columnI e.a e.ac ∧ 0 ≤ columnI e.b e.bc
def LdAt (u : World) (n : Nat) (i : Value) (wr : World) : Prop := ∃ q : Nat, q ≤ n ∧ i = .int .i64 q ∧ Grew u wr
theorem le_snoc {l : List Ed} {q : Nat} (h : q < l.length) (hc : ∀ e ∈ l.take q, 0 ≤ columnI e.a e.ac ∧ 0 ≤ columnI e.b e.bc) (ha : 0 ≤ columnI l[q].a l[q].ac) (hb : 0 ≤ columnI l[q].b l[q].bc) : ∀ e ∈ l.take (q + 1), 0 ≤ columnI e.a e.ac ∧ 0 ≤ columnI e.b e.bc := by
  intro e he
  rw [List.take_succ_eq_append_getElem h] at he
  rcases List.mem_append.1 he with he | he
  · exact hc e he
  · simp only [List.mem_singleton] at he
    subst he
    exact ⟨ha, hb⟩
theorem graphG_rise (R : Nat → Nat) (n : Nat) (l : List Ed) : riseB (graphG R n l) = true := by
  unfold riseB
  rw [List.all_eq_true]
  intro m hm
  unfold graphG at hm
  obtain ⟨t, _, rfl⟩ := List.mem_map.1 hm
  exact decide_eq_true (setI_self (setI_rising _))
set_option maxHeartbeats 16000000 in
set_option maxRecDepth 100000 in
theorem graphOfs_walk (it : List Ex) (sr : List Fr) (wh : Ex) (gr : List Ex) (A : Option Addr) (k : Nat) (B : Option Addr) (j : Nat) (C : Option Addr) (c : Nat) (D : Option Addr) (d : Nat) (w : World)
    (rA : ExsR (PRow w) A it) (rB : FrsR (PRow w) B sr) (rC : ExsR (PRow w) C wh.l) (rD : ExsR (PRow w) D gr) :
    Gives Try.prog 5 #[.agg (qyC it sr wh gr A k B j C c D d)] w (.bool true) := by
  have HMq : Hid (∀ W, Grew w W → Calls Try.prog 6 #[.agg (qyC it sr wh gr A k B j C c D d)] W (MuchR W (goodQ ⟨it, sr, wh, gr⟩))) := Lib.hid fun W hW => muchq_any it sr wh gr A k B j C c D d W (rA.grew hW) (rB.grew hW) (rC.grew hW) (rD.grew hW)
  have HLv : Hid (∀ W, Gives Try.prog 30 #[] W (.bool true)) := Lib.hid live21_any
  have RB := Lib.hid rB
  have RC := Lib.hid rC
  clear rA rB rC rD
  unfold Gives
  unfold qyC at *
  go_enter Try.func5, Try.ntmps5
  go_upto_region 1 with fail
  obtain ⟨W0, hW0⟩ : ∃ W0, W0 = (w.alloc (.cells (qyC it sr wh gr A k B j C c D d) 29)) := ⟨_, rfl⟩
  have HBq : Hid (Blok W0 w.heap.size 29 (qyC it sr wh gr A k B j C c D d)) := Lib.hid (by rw [hW0]; exact (Blok.new _ _ _ _ rfl))
  have HG0 : Hid (Grew w W0) := Lib.hid (by rw [hW0]; exact ((Grew.refl w).alloc _))
  unfold qyC at hW0
  rw [← hW0]
  clear hW0
  generalize hbq : w.heap.size = bq at *
  clear hbq
  obtain ⟨xl, x0, x1, x2, x3, x4, x5, x6, x7, x8, x9, x10, x11⟩ := qy_in HBq.out
  go_wp2_with fail
  refine (HMq.out _ HG0.out).mono ?_
  rintro e w1 ⟨t1, rfl, hg1, hq1⟩
  have HG1 := Lib.hid (HG0.out.trans hg1)
  have HBq1 := Lib.hid (HBq.out.grew hg1)
  clear hg1 HBq HG0 xl x0 x1 x2 x3 x4 x5 x6 x7 x8 x9 x10 x11
  cases t1
  rotate_left
  · go_wp2_with (go_at_call 30; (with_reducible refine (HLv.out _).grows.mono ?_); rintro e9 w9 ⟨rfl, hg9⟩; have HG9 := Lib.hid hg9; clear hg9)
    go_ret
    exact ⟨rfl, HG1.out.trans HG9.out⟩
  have hgq : goodQ ⟨it, sr, wh, gr⟩ := hq1 rfl
  clear hq1 HMq
  have hsr12 : sr.length ≤ 12 := hgq.src
  have hal : (allX sr wh (coreN sr)).length ≤ 2600 := by
    have h1 := allP_len sr hgq.on (coreN sr)
    have h2 := Nat.le_trans (partsX_len wh) hgq.wh
    unfold allX
    rw [List.length_append]
    omega
  have HOr : Hid (∀ W, Grew w W → Calls Try.prog 15 #[.agg (qyC it sr wh gr A k B j C c D d)] W (NormF W (normX sr wh))) := Lib.hid fun W hW => nrof_any it sr wh gr A k B j C c D d W (by omega) hgq.on hgq.wh (RB.out.grew hW) (RC.out.grew hW)
  have HOk : Hid (∀ e ∈ (normX sr wh).edges, okE (normX sr wh).scan.length e) := Lib.hid (by
    intro e he
    have h1 : (normX sr wh).scan.length = coreN sr := nS_len _ _
    rw [h1]
    exact nE_ok e he)
  have hne : (normX sr wh).edges.length ≤ 3000 := by
    show (nE (coreN sr) _).length ≤ _
    unfold nE
    rw [List.length_map]
    have := List.length_filter_le (fun x => decide (whereI x (coreN sr) = 3)) (allX sr wh (coreN sr))
    omega
  have hns : (normX sr wh).scan.length ≤ 12 := by
    show (nS (coreN sr) _).length ≤ _
    rw [nS_len]
    have := coreN_le sr
    omega
  clear hgq hal hsr12 RB RC
  generalize normX sr wh = nx at *
  unfold qyC at *
  obtain ⟨xl, x0, x1, x2, x3, x4, x5, x6, x7, x8, x9, x10, x11⟩ := qy_in HBq1.out
  go_upto_region 4 with (go_at_call 15; (with_reducible refine (HOr.out _ HG1.out).mono ?_); rintro e2 w2 ⟨A1, k1, B1, j1, C1, c1, D1, d1, E1, f1, rfl, hg2, hm2⟩; unfold nmC)
  have HBn : Hid (Blok (w2.alloc (.cells #[.int .i64 nx.core, .slice A1 nx.scan.length k1, .slice B1 nx.edges.length j1, .slice C1 nx.rest.length c1, .slice D1 nx.late.length d1, .slice E1 nx.wh.length f1] 44)) w2.heap.size 44 #[.int .i64 nx.core, .slice A1 nx.scan.length k1, .slice B1 nx.edges.length j1, .slice C1 nx.rest.length c1, .slice D1 nx.late.length d1, .slice E1 nx.wh.length f1]) := Lib.hid (Blok.new _ _ _ _ rfl)
  have HG2 := Lib.hid ((HG1.out.trans hg2).alloc (.cells #[.int .i64 nx.core, .slice A1 nx.scan.length k1, .slice B1 nx.edges.length j1, .slice C1 nx.rest.length c1, .slice D1 nx.late.length d1, .slice E1 nx.wh.length f1] 44))
  have HEd : Hid (EdsR (PRow (w2.alloc (.cells #[.int .i64 nx.core, .slice A1 nx.scan.length k1, .slice B1 nx.edges.length j1, .slice C1 nx.rest.length c1, .slice D1 nx.late.length d1, .slice E1 nx.wh.length f1] 44))) B1 nx.edges) := Lib.hid (hm2.edges.grew ((Grew.refl w2).alloc _))
  have HCo : Hid (∀ W, Grew (w2.alloc (.cells #[.int .i64 nx.core, .slice A1 nx.scan.length k1, .slice B1 nx.edges.length j1, .slice C1 nx.rest.length c1, .slice D1 nx.late.length d1, .slice E1 nx.wh.length f1] 44)) W → Calls Try.prog 31 #[.agg #[.int .i64 nx.core, .slice A1 nx.scan.length k1, .slice B1 nx.edges.length j1, .slice C1 nx.rest.length c1, .slice D1 nx.late.length d1, .slice E1 nx.wh.length f1]] W (GridF W (graphG (clsE nx.edges) nx.scan.length nx.edges))) := Lib.hid fun W hW => graph_any nx.core nx.edges A1 nx.scan.length k1 B1 j1 C1 nx.rest.length c1 D1 nx.late.length d1 E1 nx.wh.length f1 W (HEd.out.grew hW) hne (by omega)
  have HCr : Hid (∀ W, Grew (w2.alloc (.cells #[.int .i64 nx.core, .slice A1 nx.scan.length k1, .slice B1 nx.edges.length j1, .slice C1 nx.rest.length c1, .slice D1 nx.late.length d1, .slice E1 nx.wh.length f1] 44)) W → Calls Try.prog 33 #[.agg #[.int .i64 nx.core, .slice A1 nx.scan.length k1, .slice B1 nx.edges.length j1, .slice C1 nx.rest.length c1, .slice D1 nx.late.length d1, .slice E1 nx.wh.length f1]] W (GridF W (graphG (clsE nx.edges) nx.scan.length nx.edges))) := Lib.hid fun W hW => rgraph_any nx.core nx.edges A1 nx.scan.length k1 B1 j1 C1 nx.rest.length c1 D1 nx.late.length d1 E1 nx.wh.length f1 W (HEd.out.grew hW) hne (by omega)
  clear hg2 hm2 xl x0 x1 x2 x3 x4 x5 x6 x7 x8 x9 x10 x11 HOr HBq1 HG1
  generalize (w2.alloc (.cells #[.int .i64 nx.core, .slice A1 nx.scan.length k1, .slice B1 nx.edges.length j1, .slice C1 nx.rest.length c1, .slice D1 nx.late.length d1, .slice E1 nx.wh.length f1] 44)) = W1 at *
  generalize w2.heap.size = bn at *
  obtain ⟨core, sc, l, rs, lt, wn⟩ := nx
  simp only at HOk hne hns HBn HEd HCo HCr ⊢
  generalize hsn : sc.length = n at *
  clear hsn
  generalize rs.length = p1 at *
  generalize lt.length = p2 at *
  generalize wn.length = p3 at *
  go_wp2_with fail
  go_loopw [4] (fun i wr => LeAt W1 l i wr) (fun i _ => l.length - (intOf i).toNat)
  case atStart => exact ⟨0, Nat.zero_le _, rfl, Grew.refl _, fun e he => by simp at he⟩
  case round =>
    obtain ⟨q, hq, rfl, hg, hc⟩ := hrel
    have HG := Lib.hid hg
    have HC := Lib.hid hc
    obtain ⟨xl, x0, x1, x2, x3, x4, x5⟩ := nm_in (HBn.out.grew hg)
    clear hc
    by_cases hlt : q < l.length
    · obtain ⟨b, o, rfl, hb0, a0, a1, a2, a3⟩ := edsR_at (HEd.out.grew hg) hlt
      have HSn := Lib.hid (le_snoc hlt HC.out)
      clear hg
      generalize l[q] = y at *
      go_upto_region 8 with fail
      have HBe : Hid (Blok (wr.alloc (.cells #[.int .i64 y.a, .int .i64 y.ac, .int .i64 y.b, .int .i64 y.bc] 34)) wr.heap.size 34 #[.int .i64 y.a, .int .i64 y.ac, .int .i64 y.b, .int .i64 y.bc]) := Lib.hid (Blok.new _ _ _ _ rfl)
      have HGe : Hid (Grew W1 (wr.alloc (.cells #[.int .i64 y.a, .int .i64 y.ac, .int .i64 y.b, .int .i64 y.bc] 34))) := Lib.hid (HG.out.alloc _)
      clear hb0 a0 a1 a2 a3 xl x0 x1 x2 x3 x4 x5
      generalize (wr.alloc (.cells #[.int .i64 y.a, .int .i64 y.ac, .int .i64 y.b, .int .i64 y.bc] 34)) = W4 at *
      generalize wr.heap.size = be at *
      have HK1 : Hid (∀ W, Gives Try.prog 24 #[.int .i64 y.a, .int .i64 y.ac] W (.int .i64 (columnI y.a y.ac))) := Lib.hid fun W => rcolumn_any _ _ W
      have HK2 : Hid (∀ W, Gives Try.prog 24 #[.int .i64 y.b, .int .i64 y.bc] W (.int .i64 (columnI y.b y.bc))) := Lib.hid fun W => rcolumn_any _ _ W
      have hv1 := columnI_lt y.a y.ac
      have hv2 := columnI_lt y.b y.bc
      generalize columnI y.a y.ac = v1 at *
      generalize columnI y.b y.bc = v2 at *
      obtain ⟨r0, d0, d1, d2, d3, _, _, _, _⟩ := ed_in HBe.out
      rcases hv1 with rfl | ⟨hv1, _⟩
      · have t1 : decide ((-1 : Int) < 0) = true := by decide
        go_wp2_with (first | (go_at_call 24; (with_reducible refine (HK1.out _).grows.mono ?_); rintro e5 w5 ⟨rfl, hg5⟩; have HG5 := Lib.hid (HGe.out.trans hg5); clear hg5) | (go_at_call 30; (with_reducible refine (HLv.out _).grows.mono ?_); rintro e9 w9 ⟨rfl, hg9⟩; have HG9 := Lib.hid hg9; clear hg9))
        go_ret
        exact ⟨rfl, (HG2.out.trans HG5.out).trans HG9.out⟩
      · have t1 : decide (v1 < (0 : Int)) = false := decide_eq_false (by omega)
        rcases hv2 with rfl | ⟨hv2, _⟩
        · have t2 : decide ((-1 : Int) < 0) = true := by decide
          clear hv1
          go_wp2_with (first | (go_at_call 24; (with_reducible refine (HK1.out _).grows.mono ?_); rintro e5 w5 ⟨rfl, hg5⟩; have HG5 := Lib.hid hg5; obtain ⟨r0, d0, d1, d2, d3, _, _, _, _⟩ := ed_in (HBe.out.grew hg5); clear hg5) | (go_at_call 24; (with_reducible refine (HK2.out _).grows.mono ?_); rintro e6 w6 ⟨rfl, hg6⟩; have HG6 := Lib.hid ((HGe.out.trans HG5.out).trans hg6); clear hg6) | (go_at_call 30; (with_reducible refine (HLv.out _).grows.mono ?_); rintro e9 w9 ⟨rfl, hg9⟩; have HG9 := Lib.hid hg9; clear hg9))
          go_ret
          exact ⟨rfl, (HG2.out.trans HG6.out).trans HG9.out⟩
        · have t2 : decide (v2 < (0 : Int)) = false := decide_eq_false (by omega)
          have HSq := Lib.hid (HSn.out hv1 hv2)
          clear hv1 hv2
          go_wp2_with (first | (go_at_call 24; (with_reducible refine (HK1.out _).grows.mono ?_); rintro e5 w5 ⟨rfl, hg5⟩; have HG5 := Lib.hid hg5; obtain ⟨r0, d0, d1, d2, d3, _, _, _, _⟩ := ed_in (HBe.out.grew hg5); clear hg5) | (go_at_call 24; (with_reducible refine (HK2.out _).grows.mono ?_); rintro e6 w6 ⟨rfl, hg6⟩; have HG6 := Lib.hid ((HGe.out.trans HG5.out).trans hg6); clear hg6))
          exact ⟨⟨q + 1, by omega, by go_num, HG6.out, HSq.out⟩, by simp only [intOf]; omega⟩
    · obtain rfl : q = l.length := by omega
      rw [List.take_length] at HC
      have HDg : Hid (∀ v ∈ setI (graphG (clsE l) n l).flatten, 2 ≤ degI (graphG (clsE l) n l) v) := Lib.hid fun v hv => deg_ge HOk.out HC.out hv
      have hgl := graphG_len (clsE l) n l
      have hgr := graphG_rise (clsE l) n l
      have HGe : Hid (∀ m ∈ graphG (clsE l) n l, m.length ≤ 6000) := Lib.hid (fun m hm => by
        unfold graphG at hm
        obtain ⟨t, _, rfl⟩ := List.mem_map.1 hm
        have h1 := vtxs_len (clsE l) t l
        have h2 := setI_len (vtxs (clsE l) t l)
        omega)
      have HGw : Hid (wfG (graphG (clsE l) n l)) := Lib.hid (fun m hm => by
        unfold graphG at hm
        obtain ⟨t, _, rfl⟩ := List.mem_map.1 hm
        intro x hx
        exact vtxs_wf (clsE l) (clsE_le l) t l x ((setI_mem _ _).1 hx))
      generalize graphG (clsE l) n l = G at *
      have HRise := Lib.hid hgr
      subst hgl
      have hfl : G.flatten.length ≤ 1000000 := by
        have : ∀ (G : List (List Int)), (∀ m ∈ G, m.length ≤ 6000) → G.flatten.length ≤ 6000 * G.length := by
          intro G
          induction G with
          | nil => intro _; simp
          | cons m G ih =>
            intro h
            have h1 := ih fun z hz => h z (by simp [hz])
            have h2 := h m (by simp)
            rw [List.flatten_cons, List.length_append, List.length_cons]
            omega
        have := this G HGe.out
        omega
      have hgl2 : G.length ≤ 1000000 := by omega
      have HSm : Hid (∀ (W : World) (A B : Option Addr) (ka kb : Nat), GridI (PRow W) A G → GridI (PRow W) B G → Gives Try.prog 32 #[.slice A G.length ka, .slice B G.length kb] W (.bool true)) := Lib.hid fun W A B ka kb ha hb => by
        have := rsamegrid_any G G A B ka kb hgl2 (fun m hm => by have := HGe.out m hm; omega) (fun m hm => by have := HGe.out m hm; omega) W ha hb
        rw [decide_eq_true rfl] at this
        exact this
      have HRt : Hid (∀ (W : World) (A : Option Addr) (ka : Nat), GridI (PRow W) A G → Gives Try.prog 34 #[.slice A G.length ka] W (.bool true)) := Lib.hid fun W A ka ha => by
        have := right21_any G A ka hgl2 (fun m hm => by have := HGe.out m hm; omega) W ha
        rw [HRise.out] at this
        exact this
      have HVt : Hid (∀ (W : World) (A : Option Addr) (ka : Nat), GridI (PRow W) A G → Calls Try.prog 35 #[.slice A G.length ka] W (OwnI W (setI G.flatten))) := Lib.hid fun W A ka ha => vertices21_any G A ka HGw.out hgl2 hfl W ha
      have HDe : Hid (∀ (v : Int) (W : World) (A : Option Addr) (ka : Nat), GridI (PRow W) A G → Gives Try.prog 36 #[.slice A G.length ka, .int .i64 v] W (.int .i64 (degI G v))) := Lib.hid fun v W A ka ha => degree21_any G v A ka hgl2 (fun m hm => by have := HGe.out m hm; omega) W ha
      have HVl : Hid ((setI G.flatten).length ≤ 1000000) := Lib.hid (Nat.le_trans (setI_len _) hfl)
      have HGn := Lib.hid hg
      clear hgr hfl hgl2 HRise HGe HGw HOk HC hne hns hg
      generalize setI G.flatten = vs at *
      unfold GridF at HCo HCr
      generalize hGl : G.length = gl at *
      clear hGl
      go_upto_region 11 with (go_at_call 31; (with_reducible refine (HCo.out _ HGn.out).mono ?_); rintro e3 w3 ⟨A3, k3, rfl, hg3, hi3⟩)
      have HG3 := Lib.hid (HGn.out.trans hg3)
      have HI3 := Lib.hid hi3
      obtain ⟨xl, x0, x1, x2, x3, x4, x5⟩ := nm_in (HBn.out.grew (HGn.out.trans hg3))
      clear hg3 hi3 HGn HG
      go_upto_region 13 with (first | (go_at_call 33; (with_reducible refine (HCr.out _ HG3.out).mono ?_); rintro e4 w4 ⟨A4, k4, rfl, hg4, hi4⟩; have HI4 := Lib.hid hi4; have HI34 := Lib.hid (HI3.out.grew hg4); have HG4 := Lib.hid (HG3.out.trans hg4); clear hg4 hi4) | (go_at_call 32; (with_reducible refine (HSm.out _ _ _ _ _ HI34.out HI4.out).grows.mono ?_); rintro e5 w5 ⟨rfl, hg5⟩; have HI35 := Lib.hid (HI34.out.grew hg5); have HG5 := Lib.hid (HG4.out.trans hg5); clear hg5) | (go_at_call 34; (with_reducible refine (HRt.out _ _ _ HI35.out).grows.mono ?_); rintro e6 w6 ⟨rfl, hg6⟩; have HI36 := Lib.hid (HI35.out.grew hg6); have HG6 := Lib.hid (HG5.out.trans hg6); clear hg6))
      go_upto_region 14 with (go_at_call 35; (with_reducible refine (HVt.out _ _ _ HI36.out).mono ?_); rintro e7 w7 ⟨A7, k7, rfl, hg7, ho7⟩)
      have HI7 := Lib.hid (HI36.out.grew hg7)
      have HG7 := Lib.hid (HG6.out.trans hg7)
      have HR7 := Lib.hid (own_rowI ho7)
      have hvl := HVl.out
      clear hg7 ho7 xl x0 x1 x2 x3 x4 x5
      go_wp2_with fail
      go_loopw [8] (fun i wr => LdAt w7 vs.length i wr) (fun i _ => vs.length - (intOf i).toNat)
      case atStart => exact ⟨0, Nat.zero_le _, rfl, Grew.refl _⟩
      case round =>
        obtain ⟨q, hq, rfl, hg⟩ := hrel
        have HG := Lib.hid hg
        clear hg
        by_cases hlt : q < vs.length
        · obtain ⟨b, o, rfl, hb, hc⟩ := rowI_at (HR7.out.grew HG.out) hlt
          have hd := HDg.out _ (List.getElem_mem hlt)
          generalize vs[q] = v at *
          have HDv := Lib.hid (HDe.out v)
          have t1 : decide (((degI G v : Nat) : Int) < 2) = false := decide_eq_false (by omega)
          generalize degI G v = dg at *
          clear hd
          go_wp2_with (go_at_call 36; (with_reducible refine (HDv.out _ _ _ (HI7.out.grew HG.out)).grows.mono ?_); rintro e8 w8 ⟨rfl, hg8⟩; have HG8 := Lib.hid (HG.out.trans hg8); clear hg8)
          exact ⟨⟨q + 1, by omega, by go_num, HG8.out⟩, by simp only [intOf]; omega⟩
        · obtain rfl : q = vs.length := by omega
          go_wp2_with (go_at_call 30; (with_reducible refine (HLv.out _).grows.mono ?_); rintro e9 w9 ⟨rfl, hg9⟩; have HG9 := Lib.hid hg9; clear hg9)
          go_ret
          exact ⟨rfl, ((HG2.out.trans HG7.out).trans HG.out).trans HG9.out⟩
end Go.Proofs.Ytchogpdfdpbpfaa

namespace Go.Proofs.Ytchogpdfdpbpfaa.graphOfs
open Go.RowKit Go.ChangeShapes Go.WideShapes Go.ChangeAt Go.Joins

theorem reads : ∀ t ∈ Try.f5.params.toList, Try.prog.readableRec t = true ∧ t < Try.prog.types.size := by
  rw [Try.params5]
  intro t ht
  simp only [List.mem_cons, List.not_mem_nil, or_false] at ht
  subst ht
  all_goals exact ⟨by kernel_rfl, of_decide_eq_true (by kernel_rfl)⟩

set_option maxRecDepth 100000 in
theorem lifted (os : Os) (started : os.Started) (H : Type) (enc : TypeId × Value → H) :
    ReturnsInHanded {} Try.checked os 5 .any (Rows.graphOfsSpec.pre6 enc Try.prog Try.f5 Rows.graphOfsRow.domain false) (Rows.graphOfsSpec.post enc Try.prog Try.f5 false true false false) := by
  refine returnsInHanded_of_change (C := Try.checked) own started (by kernel_rfl) Try.func5
    (ChangeSpec.witness6 (enc := enc) (C := Try.checked) false ⟨#[], #[.agg #[.slice none 0 0, .slice none 0 0, .int .i64 0, .string ByteArray.empty, .string ByteArray.empty, .int .i64 0, .int .i64 0, .int .i64 0, .int .i64 0, .string ByteArray.empty, .slice none 0 0, .slice none 0 0]], []⟩ 8 (by kernel_rfl) (by kernel_rfl) (by kernel_rfl) (by kernel_rfl)) ?_
  intro W base args ds gs before hval0 hW hcnd _
  have hval : ∀ (j : Nat) t v, Try.f5.params[j]? = some t → args[j]? = some v → Value.okWide Try.prog W .any base t v := hval0
  have hW' := hW
  obtain ⟨p, q, hA0, hV, hpq, hfz, hnd⟩ := hW
  have hA : DataW.TrodAll enc Try.prog W 0 (fun _ => true) true Try.f5.params.toList args.toList ds p := hA0
  rw [Try.params5] at hA hval
  obtain ⟨v0, vs0, d0, ds0, p0, q0, hargs, rfl, rfl, h0, r0⟩ := trodAll_cons hA
  obtain ⟨rfl, rfl, rfl⟩ := trodAll_nil r0
  obtain rfl : args = #[v0] := by cases args; simp_all
  obtain ⟨rfl, rfl⟩ := trodVars_none hV
  obtain ⟨qcs, q, rfl, zq, qA, qk, qB, qj, qC, qc, qD, qd, eq, rq1, rq2, rq3, rq4⟩ := rd_arg Try.underlying29 rd_query (hval 0 29 v0 rfl rfl) h0
  obtain rfl : qcs = qyC q.items q.src q.wh q.group qA qk qB qj qC qc qD qd := Array.ext' (by rw [eq]; rfl)
  refine (graphOfs_walk q.items q.src q.wh q.group qA qk qB qj qC qc qD qd W rq1 rq2 rq3 rq4).mono fun e W' ⟨he, hg⟩ => ?_
  subst he
  exact ⟨_, rfl, law_post hW' rfl rfl Try.underlying4 rfl rfl rfl laid_out reads (Grew.below hg)⟩

theorem over : Rows.graphOfsRow.holds Try.pinned (OpenSpec.ofChange Rows.graphOfsSpec) :=
  OpenClaim.holds_of_wide 5 Try.f5 rfl rfl rfl rfl rfl rfl rfl ⟨rfl, rfl, rfl, rfl, rfl⟩ rfl rfl rfl rfl rfl (by kernel_rfl) Try.func5 (by kernel_rfl)
    (of_decide_eq_true (by kernel_rfl)) (by unfold Func.isWrapper; first | (rw [if_pos (by decide +kernel)]; kernel_rfl) | (rw [if_neg (by decide +kernel)]; exact ⟨rfl, rfl⟩))
    (fun os started H enc _ => lifted os started H enc)

theorem proved : Rows.GraphOfsSaid := over

end Go.Proofs.Ytchogpdfdpbpfaa.graphOfs
