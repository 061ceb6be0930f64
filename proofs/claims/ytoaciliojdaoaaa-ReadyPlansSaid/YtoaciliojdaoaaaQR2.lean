/- Layers 16 and 32: how much a query's conditions are, and how much a plan's pipes need. No condition. -/
import Derived.Test.YtoaciliojdaoaaaQPa
import Derived.Test.YtoaciliojdaoaaaQNa
import Derived.Test.YtoaciliojdaoaaaQR1
import Derived.Lib.OwnBridge
import Derived.Test.YtoaciliojdaoaaaQNm
import Derived.Test.YtoaciliojdaoaaaQNc

/- Layers 30 and 32: rising lists, is a list an order of all tables: by the program. Condition: no more than a thousand tables, a million numbers. -/
namespace Go.Proofs.Ytoaciliojdaoaaa
open Go.RowKit
attribute [local go_sem] more_cell more_frozen more_more more_setCell more_of_drew more_of_drewN lt_more le_more past_cell past_cell2 past_frozen past_frozen2 past_setCell past_setCell2 mid_cell mid_frozen mid_setCell
attribute [local go_sem ↓] Go.wp_at_zero Go.wp_at_succ

def risI (n : Nat) : List Int := (List.range n).map fun (i : Nat) => (i : Int)
theorem risI_mem (n : Nat) (x : Int) : x ∈ risI n ↔ 0 ≤ x ∧ x < n := by
  unfold risI
  simp only [List.mem_map, List.mem_range]
  exact ⟨fun ⟨t, h1, h2⟩ => by omega, fun h => ⟨x.toNat, by omega, by omega⟩⟩
theorem risI_nodup (n : Nat) : (risI n).Nodup := by
  unfold risI
  rw [List.nodup_iff_pairwise_ne, List.pairwise_map]
  exact List.nodup_range.imp fun h h2 => h (by omega)
theorem risI_len (n : Nat) : (risI n).length = n := by simp [risI]
theorem full_perm : ∀ (r l : List Int), r.Nodup → (∀ x ∈ r, x ∈ l) → l.length ≤ r.length → l.Perm r
  | [], l, _, _, h => by
    have h0 : l = [] := List.eq_nil_of_length_eq_zero (by simpa using h)
    subst h0
    exact List.Perm.refl _
  | a :: r, l, hn, hs, h => by
    have hn' := List.nodup_cons.1 hn
    have ha := hs a (by simp)
    have h1 := List.perm_cons_erase ha
    have h2 := h1.length_eq
    simp only [List.length_cons] at h h2
    refine h1.trans (List.Perm.cons a (full_perm r _ hn'.2 (fun x hx => ?_) (by omega)))
    exact (List.mem_erase_of_ne (fun e : x = a => hn'.1 (e ▸ hx))).2 (hs x (by simp [hx]))
def rightP (n : Nat) (l : List Int) : Prop := (∀ t : Nat, t < n → (t : Int) ∈ l) ∧ l.length = n
instance (n : Nat) (l : List Int) : Decidable (rightP n l) := inferInstanceAs (Decidable ((∀ t : Nat, t < n → (t : Int) ∈ l) ∧ l.length = n))
theorem rightP_perm {n : Nat} {l : List Int} : rightP n l ↔ l.Perm (risI n) := by
  constructor
  · rintro ⟨h1, h2⟩
    refine full_perm _ _ (risI_nodup n) (fun x hx => ?_) (by rw [risI_len]; omega)
    have := (risI_mem n x).1 hx
    have h := h1 x.toNat (by omega)
    rwa [show ((x.toNat : Nat) : Int) = x by omega] at h
  · intro h
    refine ⟨fun t ht => h.mem_iff.2 ((risI_mem n t).2 (by omega)), by rw [h.length_eq, risI_len]⟩
theorem nm6 {w : World} {g : Nat} {x : Nm} {A : Option Addr} {k : Nat} {B : Option Addr} {j : Nat} {C : Option Addr} {c : Nat} {D : Option Addr} {d : Nat} {E : Option Addr} {e : Nat} (h : Blok w g 37 (nmC x A k B j C c D d E e)) :
    g < w.heap.size ∧ w.cell? ⟨g, 0, none⟩ = some (.int .i64 x.core) ∧ w.cell? ⟨g, 1, none⟩ = some (.slice A x.scan.length k) ∧ w.cell? ⟨g, 2, none⟩ = some (.slice B x.edges.length j) ∧ w.cell? ⟨g, 3, none⟩ = some (.slice C x.rest.length c) ∧ w.cell? ⟨g, 4, none⟩ = some (.slice D x.late.length d) ∧ w.cell? ⟨g, 5, none⟩ = some (.slice E x.wh.length e) :=
  ⟨h.lt, h.cell 0, h.cell 1, h.cell 2, h.cell 3, h.cell 4, h.cell 5⟩
theorem equal_ints (a b : List Int) (A B : Option Addr) (c d : Nat) (w : World) (ha : Row w A (iV a)) (hb : Row w B (iV b)) (hl : a.length ≤ 1000000000) (hm : b.length ≤ 1000000000) :
    Gives Try.prog 60 #[.slice A a.length c, .slice B b.length d] w (.bool (decide (a = b))) := by
  by_cases hn : a.length = b.length
  · by_cases h0 : a.length = 0
    · have e1 : a = [] := List.eq_nil_of_length_eq_zero h0
      have e2 : b = [] := List.eq_nil_of_length_eq_zero (by omega)
      subst e1 e2
      refine (Try.slices_Equal_int_empty A B c 0 d w (by decide)).mono ?_
      rintro e w' ⟨rfl, rfl⟩
      exact ⟨by simp, ⟨⟨#[], w'.drawn⟩, (more_self w').symm⟩⟩
    · obtain ⟨b1, o1, rfl⟩ := irow_some ha (j := 0) (by omega)
      obtain ⟨b2, o2, rfl⟩ := irow_some hb (j := 0) (by omega)
      have hc : ∀ (l : List Int) (q p : Nat), Row w (some ⟨q, p, none⟩) (iV l) → ∀ j, j < l.length → w.cell? ⟨q, p + j, none⟩ = some (.int .i64 (l.getD j 0)) := fun l q p hr j hj => by
        rw [(irow_cell hr hj rfl).2, List.getD_eq_getElem?_getD, List.getElem?_eq_getElem hj]
        rfl
      refine (Try.slices_Equal_int b1 o1 a.length c b2 o2 b.length d a b w (Nat.le_refl _) (Nat.le_refl _) (by omega) (by omega) (hc a b1 o1 ha) (hc b b2 o2 hb)).mono ?_
      rintro e w' ⟨rfl, q, rfl⟩
      refine ⟨?_, (Grew.refl w).drewN q⟩
      rw [List.take_length, List.take_length]
      congr 2
      by_cases h : a = b
      · rw [decide_eq_true h, h]; simp
      · rw [decide_eq_false h]; simpa using h
  · refine (Try.slices_Equal_int_lens A B a.length c b.length d w hn).mono ?_
    rintro e w' ⟨rfl, rfl⟩
    refine ⟨?_, ⟨⟨#[], w'.drawn⟩, (more_self w').symm⟩⟩
    rw [decide_eq_false (fun e => hn (by rw [e]))]
theorem wpList_make_capO {P : Program} (w : World) {ops : Array Oper} {rest : List Oper} {o : Oper} {a : Act} {Q : Exit → Act → World → Prop}
    (hg : o.guard = none) (l c : Operand) (t : TypeId) (hop : o.op = Op.makeSlice t l c)
    (e : TypeId) (i : TypeInfo) (z : Value) (ht : P.underlying t = some (.slice e)) (hi : P.info? e = some i) (hz : i.zero = some z) (hsize : i.size = 1) (hz1 : z.cells = #[z])
    (kl kc : IntKind) (n : Nat) (hl : a.eval l = .int kl 0) (hc : a.eval c = .int kc (n : Int)) (hbytes : i.bytes * n ≤ 281474976710656) (h63 : n ≤ 9223372036854775807)
    (hK : wpList P ops Q rest (a.put o.dst (.slice (some ⟨w.heap.size, 0, none⟩) 0 n)) (w.alloc (.cells (madeCells #[z] n) e))) :
    wpList P ops Q (o :: rest) a w := by
  refine wpList_plain hg fun K hK' => ?_
  have hb' : (i.bytes : Int) * (n : Int) ≤ 281474976710656 := by
    have h : ((i.bytes * n : Nat) : Int) ≤ 281474976710656 := by omega
    rwa [Int.natCast_mul] at h
  have hrun := run_make (P := P) w t e i z ht hi hz kl kc 0 n (Int.le_refl _) (by omega) hb' (by omega)
  simp only [Int.toNat_zero, Int.toNat_natCast, hsize, Nat.mul_one, hz1] at hrun
  unfold Oper.wp
  simp [execOp, hop, hl, hc, hrun, Result.andThen]
  exact hK' _ _ hK
theorem risI_succ (n : Nat) : risI (n + 1) = risI n ++ [(n : Int)] := by simp [risI, List.range_succ]
def RiAt (w : World) (n : Nat) (v i : Value) (wr : World) : Prop := ∃ j : Nat, j ≤ n ∧ i = .int .i64 j ∧ ∃ (A : Option Addr) (c : Nat), v = .slice A j c ∧ Grew w wr ∧ wr.ownsRow w.heap.size 3 1 (.slice A j c) j (iV (risI j))
set_option maxHeartbeats 2000000 in
theorem lrising_any (n : Nat) (hn : n ≤ 1000) (w : World) : Calls Try.prog 36 #[.int .i64 n] w (OwnI w (risI n)) := by
  obtain ⟨i0, hi, hz0, hz1, hz2⟩ := info_parts infoI
  have HI := Lib.hid hi
  have HI0 := Lib.hid hz0
  have HI1 := Lib.hid hz1
  have HI2 := Lib.hid hz2
  have hmx : (if (0 : Int) < (n : Int) then (n : Int) else 0) = (n : Int) := by split <;> omega
  clear hi hz0 hz1 hz2
  go_enter Try.func36, Try.ntmps36
  go_wp2_with (at_make; refine wpList_make_capO _ rfl _ _ 30 rfl 3 i0 (.int .i64 0) Try.underlying30 HI.out HI0.out HI1.out rfl _ _ n rfl rfl (by rw [HI2.out]; omega) (by omega) ?_)
  obtain ⟨W1, hW1⟩ : ∃ W1, W1 = w.alloc (.cells (madeCells #[.int .i64 0] n) 3) := ⟨_, rfl⟩
  have HO1 : Hid (W1.ownsRow w.heap.size 3 1 (.slice (some ⟨w.heap.size, 0, none⟩) 0 n) 0 (iV [])) := Lib.hid (by rw [hW1]; exact World.ownsRow_made w _ n (Nat.le_refl _) (by unfold maxLen; omega) (by rw [size_madeCells, Nat.mul_one]))
  have HG1 : Hid (Grew w W1) := Lib.hid (by rw [hW1]; exact (Grew.refl w).alloc _)
  clear HI HI0 HI1 HI2
  go_loopw [3, 9] (fun v i wr => RiAt w n v i wr) (fun _ i _ => n - (intOf i).toNat)
  case atStart => exact ⟨0, Nat.zero_le _, rfl, _, _, rfl, by rw [← hW1]; exact HG1.out, by rw [← hW1]; exact HO1.out⟩
  case round =>
    obtain ⟨j, hj, rfl, A, c, rfl, hg, ho⟩ := hrel
    have HG := Lib.hid hg
    have HO := Lib.hid ho
    clear hg ho hmx hW1 HO1 HG1
    by_cases h : j < n
    · have HT : Hid (iV (risI (j + 1)) = iV (risI j) ++ [.int .i64 j]) := Lib.hid (by rw [risI_succ]; simp [iV])
      go_wp2_with (at_builtin; refine wpList_app rfl _ _ 30 3 rfl w (.int .i64 0) 8 Try.underlying30 infoI rfl (by decide) _ j (iV (risI j)) rfl (own_alloc HO.out _) _ 1 1 [.int .i64 j] rfl rfl (row_one _ _ _ _ rfl) (by simp [Value.oneCell']) (by omega) (HG.out.alloc _) ?_; intro A' c' w' ho' _ hg' _ _; have HO2 := Lib.hid ho'; have HG2 := Lib.hid hg'; clear ho' hg')
      exact ⟨⟨j + 1, by omega, by go_num, A', c', rfl, HG2.out, by rw [HT.out]; exact HO2.out⟩, by simp only [intOf]; omega⟩
    · obtain rfl : j = n := by omega
      go_wp2
      go_ret
      exact ⟨A, c, by rw [risI_len]; rfl, HG.out, by rw [risI_len]; exact HO.out⟩
theorem right_iff (n : Nat) (l : List Int) : sortI l = risI n ↔ rightP n l := by
  rw [rightP_perm]
  constructor
  · intro h
    rw [← h]
    exact (sortI_perm l).symm
  · intro h
    refine (sortI_uniq h.symm ?_).symm
    unfold risI
    rw [List.pairwise_map]
    exact List.pairwise_lt_range.imp fun h => by omega
set_option maxHeartbeats 4000000 in
set_option maxRecDepth 100000 in
/-- Is each table of the core there, just once, and nothing else? By the program. -/
theorem right_any (x : Nm) (hx : x.scan.length ≤ 1000) (l : List Int) (hl : l.length ≤ 1000000) (S : Option Addr) (ks : Nat) (X : Option Addr) (kx : Nat) (B : Option Addr) (j : Nat) (C : Option Addr) (c : Nat) (D : Option Addr) (d : Nat) (E : Option Addr) (e : Nat) (w : World) (rs : Row w S (iV l)) :
    Gives Try.prog 35 #[.agg (nmC x X kx B j C c D d E e), .slice S l.length ks] w (.bool (decide (rightP x.scan.length l))) := by
  obtain ⟨W0, hW0⟩ : ∃ W0, W0 = w.alloc (.cells (nmC x X kx B j C c D d E e) 37) := ⟨_, rfl⟩
  have HG0 : Hid (Grew w W0) := Lib.hid (by rw [hW0]; exact (Grew.refl w).alloc _)
  have HX0 : Hid (Blok W0 w.heap.size 37 (nmC x X kx B j C c D d E e)) := Lib.hid (by rw [hW0]; exact Blok.new _ _ _ _ rfl)
  have HRs := Lib.hid (rs.grew HG0.out)
  have HSo : Hid (∀ W Bs, Grew W0 W → Bs < W.heap.size → W.cell? ⟨Bs, 0, none⟩ = some (.slice S l.length ks) → Calls Try.prog 61 #[.func (.func 84) #[] #[.pointer (some ⟨Bs, 0, none⟩)]] W (IntsF W (sortI l))) := Lib.hid fun W Bs hW h1 h2 => sorted_any Bs S ks l hl W (HRs.out.grew hW) h1 h2
  have HRi : Hid (∀ W, Calls Try.prog 36 #[.int .i64 x.scan.length] W (OwnI W (risI x.scan.length))) := Lib.hid fun W => lrising_any _ hx W
  have hll : (sortI l).length = l.length := sortI_len l
  have HEq : Hid (∀ W A B c d, Row W A (iV (sortI l)) → Row W B (iV (risI x.scan.length)) → Gives Try.prog 60 #[.slice A (sortI l).length c, .slice B (risI x.scan.length).length d] W (.bool (decide (rightP x.scan.length l)))) := Lib.hid fun W A B c d h1 h2 => by
    have := equal_ints (sortI l) (risI x.scan.length) A B c d W h1 h2 (by omega) (by rw [risI_len]; omega)
    rwa [decide_eq_decide.2 (right_iff x.scan.length l)] at this
  clear rs hll
  generalize decide (rightP x.scan.length l) = fin at *
  generalize risI x.scan.length = rl at *
  generalize sortI l = sl at *
  unfold nmC at hW0 ⊢
  unfold Gives
  go_enter Try.func35, Try.ntmps35
  go_upto_region 1 with fail
  rw [← hW0]
  clear hW0
  obtain ⟨W1, hW1⟩ : ∃ W1, W1 = W0.drew := ⟨_, rfl⟩
  have hS0 : Grew W0 W1 := by rw [hW1]; exact (Grew.refl W0).drew
  refine wp_region_S (fun W => Grew W0 W) (by kernel_rfl) ?_
  rw [← hW1]
  clear hW1
  refine held_take 0 (v := ?_) rfl (by kernel_rfl) (by kernel_rfl) (by kernel_rfl) (fun _ _ _ h => h) (by rfl) ?_ hS0 ?_
  rotate_left
  · (intro W hW; obtain ⟨x0, m0, m1, m2, m3, m4, m5⟩ := nm6 (HX0.out.grew hW); go_simp; with_reducible rfl)
  refine held_take 3 (v := ?_) rfl (by kernel_rfl) (by kernel_rfl) (by kernel_rfl) (fun _ _ _ h => h) (by rfl) ?_ hS0 ?_
  rotate_left
  · (intro W hW; obtain ⟨x0, m0, m1, m2, m3, m4, m5⟩ := nm6 (HX0.out.grew hW); go_simp; with_reducible rfl)
  refine held_take 4 (v := ?_) rfl (by kernel_rfl) (by kernel_rfl) (by kernel_rfl) (fun _ _ _ h => h) (by rfl) ?_ hS0 ?_
  rotate_left
  · (intro W hW; obtain ⟨x0, m0, m1, m2, m3, m4, m5⟩ := nm6 (HX0.out.grew hW); go_simp; with_reducible rfl)
  refine held_take 5 (v := ?_) rfl (by kernel_rfl) (by kernel_rfl) (by kernel_rfl) (fun _ _ _ h => h) (by rfl) ?_ hS0 ?_
  rotate_left
  · (intro W hW; obtain ⟨x0, m0, m1, m2, m3, m4, m5⟩ := nm6 (HX0.out.grew hW); go_simp; with_reducible rfl)
  refine held_norm (a' := ?_) ?_ ?_
  rotate_left
  · (go_simp; with_reducible rfl)
  refine held_call 1 (by kernel_rfl) rfl (by rfl) (fun K hK => ?_)
  go_simp
  go_wp2_with ((go_at_call 62; (with_reducible refine (values_any _ _ _ _).mono ?_); rintro en w2 ⟨rfl, hw2⟩; have hS2 : Grew W0 w2 := (by rw [hw2]; exact hS0.alloc _); have HW2 := Lib.hid hw2; clear hw2))
  refine hK.out _ _ hS2 ?_
  clear hK K
  have hc2 : W1.heap.size < w2.heap.size ∧ w2.cell? ⟨W1.heap.size, 0, none⟩ = some (.slice S l.length ks) := by
    have hb : Blok w2 W1.heap.size 30 #[.slice S l.length ks] := by rw [HW2.out]; exact Blok.new _ _ _ _ rfl
    exact ⟨hb.lt, hb.cell 0⟩
  clear HW2
  refine held_call 2 (by kernel_rfl) rfl (by rfl) (fun K hK => ?_)
  go_simp
  go_wp2_with ((go_at_call 61; (with_reducible refine (HSo.out _ _ hS2 hc2.1 hc2.2).mono ?_); rintro en w3 ⟨A3, k3, rfl, hg3, hr3⟩; have hS3 : Grew W0 w3 := hS2.trans hg3))
  refine hK.out _ _ hS3 ?_
  clear hK K
  refine held_call 6 (by kernel_rfl) rfl (by rfl) (fun K hK => ?_)
  go_simp
  go_wp2_with ((go_at_call 36; (with_reducible refine (HRi.out _).mono ?_); rintro en w4 ⟨A4, k4, rfl, hg4, ho4⟩; have hS4 : Grew W0 w4 := hS3.trans hg4))
  refine hK.out _ _ hS4 ?_
  clear hK K
  refine held_call 7 (by kernel_rfl) rfl (by rfl) (fun K hK => ?_)
  go_simp
  go_wp2_with ((go_at_call 60; (with_reducible refine (HEq.out _ _ _ _ _ (hr3.grew hg4) (own_rowI ho4)).grows.mono ?_); rintro en w5 ⟨rfl, hg5⟩; have hS5 : Grew W0 w5 := hS4.trans hg5))
  refine hK.out _ _ hS5 ?_
  clear hK K
  refine held_take 8 (v := ?_) rfl (by kernel_rfl) (by kernel_rfl) (by kernel_rfl) (fun _ _ _ h => h) (by rfl) ?_ hS5 ?_
  rotate_left
  · (intro W hW; go_simp; with_reducible rfl)
  refine held_norm (a' := ?_) ?_ ?_
  rotate_left
  · (go_simp; with_reducible rfl)
  refine held_done (by kernel_rfl) ?_
  have HGf := Lib.hid (HG0.out.trans hS5)
  clear hS0 hS2 hS3 hS4 hS5 hg3 hg4 hg5 hr3 ho4 hc2
  go_wp2
  go_ret
  exact ⟨rfl, HGf.out⟩
end Go.Proofs.Ytoaciliojdaoaaa

/- Layer 32: is a filter among others; a plan's driver: by the program. Condition: memory that is there; columns of at most a thousand million in all the others. -/
namespace Go.Proofs.Ytoaciliojdaoaaa
open Go.RowKit
attribute [local go_sem] more_cell more_frozen more_more more_setCell more_of_drew more_of_drewN lt_more le_more past_cell past_cell2 past_frozen past_frozen2 past_setCell past_setCell2 mid_cell mid_frozen mid_setCell
attribute [local go_sem ↓] Go.wp_at_zero Go.wp_at_succ

theorem equal_intsL (a b : List Int) (A B : Option Addr) (c d : Nat) (w : World) (ha : Row w A (iV a)) (hb : Row w B (iV b)) (hm : b.length ≤ 1000000000) :
    Gives Try.prog 60 #[.slice A a.length c, .slice B b.length d] w (.bool (decide (a = b))) := by
  by_cases hn : a.length = b.length
  · by_cases h0 : a.length = 0
    · have e1 : a = [] := List.eq_nil_of_length_eq_zero h0
      have e2 : b = [] := List.eq_nil_of_length_eq_zero (by omega)
      subst e1 e2
      refine (Try.slices_Equal_int_empty A B c 0 d w (by decide)).mono ?_
      rintro e w' ⟨rfl, rfl⟩
      exact ⟨by simp, ⟨⟨#[], w'.drawn⟩, (more_self w').symm⟩⟩
    · obtain ⟨b1, o1, rfl⟩ := irow_some ha (j := 0) (by omega)
      obtain ⟨b2, o2, rfl⟩ := irow_some hb (j := 0) (by omega)
      have hc : ∀ (l : List Int) (q p : Nat), Row w (some ⟨q, p, none⟩) (iV l) → ∀ j, j < l.length → w.cell? ⟨q, p + j, none⟩ = some (.int .i64 (l.getD j 0)) := fun l q p hr j hj => by
        rw [(irow_cell hr hj rfl).2, List.getD_eq_getElem?_getD, List.getElem?_eq_getElem hj]
        rfl
      refine (Try.slices_Equal_int b1 o1 a.length c b2 o2 b.length d a b w (Nat.le_refl _) (Nat.le_refl _) (by omega) (by omega) (hc a b1 o1 ha) (hc b b2 o2 hb)).mono ?_
      rintro e w' ⟨rfl, q, rfl⟩
      refine ⟨?_, (Grew.refl w).drewN q⟩
      rw [List.take_length, List.take_length]
      congr 2
      by_cases h : a = b
      · rw [decide_eq_true h, h]; simp
      · rw [decide_eq_false h]; simpa using h
  · refine (Try.slices_Equal_int_lens A B a.length c b.length d w hn).mono ?_
    rintro e w' ⟨rfl, rfl⟩
    refine ⟨?_, ⟨⟨#[], w'.drawn⟩, (more_self w').symm⟩⟩
    rw [decide_eq_false (fun e => hn (by rw [e]))]

def sameFv (x y : Fv) : Bool := decide (x.f = y.f) && (decide (x.t = y.t) && (decide (x.a = y.a) && decide (x.b = y.b)))
theorem sameFv_eq {x y : Fv} : sameFv x y = true ↔ x = y := by
  obtain ⟨f, t, a, b⟩ := x
  obtain ⟨f', t', a', b'⟩ := y
  simp [sameFv]
theorem f4_in {w : World} {g : Nat} {a0 a1 a2 a3 : Value} (h : Blok w g 43 #[a0, a1, a2, a3]) : g < w.heap.size ∧ w.cell? ⟨g, 0, none⟩ = some a0 ∧ w.cell? ⟨g, 1, none⟩ = some a1 ∧ w.cell? ⟨g, 2, none⟩ = some a2 ∧ w.cell? ⟨g, 3, none⟩ = some a3 :=
  ⟨h.lt, h.cell 0, h.cell 1, h.cell 2, h.cell 3⟩
set_option maxHeartbeats 4000000 in
set_option maxRecDepth 100000 in
theorem psame32_any (x y : Fv) (hy : y.a.length ≤ 1000000000 ∧ y.b.length ≤ 1000000000) (A : Option Addr) (k : Nat) (B : Option Addr) (j : Nat) (C : Option Addr) (c : Nat) (D : Option Addr) (d : Nat) (w : World) (rA : Row w A (iV x.a)) (rB : Row w B (iV x.b)) (rC : Row w C (iV y.a)) (rD : Row w D (iV y.b)) :
    Gives Try.prog 41 #[.agg #[.int .i64 x.f, .slice A x.a.length k, .int .i64 x.t, .slice B x.b.length j], .agg #[.int .i64 y.f, .slice C y.a.length c, .int .i64 y.t, .slice D y.b.length d]] w (.bool (sameFv x y)) := by
  have HA : Hid (∀ W, Grew w W → Gives Try.prog 60 #[.slice A x.a.length k, .slice C y.a.length c] W (.bool (decide (x.a = y.a)))) := Lib.hid fun W hW => equal_intsL _ _ A C k c W (rA.grew hW) (rC.grew hW) hy.1
  have HB : Hid (∀ W, Grew w W → Gives Try.prog 60 #[.slice B x.b.length j, .slice D y.b.length d] W (.bool (decide (x.b = y.b)))) := Lib.hid fun W hW => equal_intsL _ _ B D j d W (rB.grew hW) (rD.grew hW) hy.2
  clear rA rB rC rD hy
  obtain ⟨W0, hW0⟩ : ∃ W0, W0 = (w.alloc (.cells #[.int .i64 x.f, .slice A x.a.length k, .int .i64 x.t, .slice B x.b.length j] 43)).alloc (.cells #[.int .i64 y.f, .slice C y.a.length c, .int .i64 y.t, .slice D y.b.length d] 43) := ⟨_, rfl⟩
  have HG0 : Hid (Grew w W0) := Lib.hid (by rw [hW0]; exact ((Grew.refl w).alloc _).alloc _)
  have HX0 : Hid (Blok W0 w.heap.size 43 #[.int .i64 x.f, .slice A x.a.length k, .int .i64 x.t, .slice B x.b.length j]) := Lib.hid (by rw [hW0]; exact (Blok.new _ _ _ _ rfl).alloc _)
  have HY0 : Hid (Blok W0 (w.heap.size + 1) 43 #[.int .i64 y.f, .slice C y.a.length c, .int .i64 y.t, .slice D y.b.length d]) := Lib.hid (by rw [hW0]; exact Blok.new _ _ _ _ (by simp))
  have HV : Hid (sameFv x y = (decide (x.f = y.f) && (decide (x.t = y.t) && (decide (x.a = y.a) && decide (x.b = y.b))))) := Lib.hid rfl
  generalize sameFv x y = fin at *
  generalize decide (x.a = y.a) = ea at *
  generalize decide (x.b = y.b) = eb at *
  generalize x.a.length = na at *
  generalize x.b.length = nb at *
  generalize y.a.length = ma at *
  generalize y.b.length = mb at *
  unfold Gives
  by_cases h1 : x.f = y.f
  · have e1 : (x.f == y.f) = true := by simpa using h1
    by_cases h2 : x.t = y.t
    · have e2 : (x.t == y.t) = true := by simpa using h2
      cases ea
      · have hf : fin = false := by rw [HV.out]; simp
        clear HV h1 h2
        subst hf
        go_enter Try.func41, Try.ntmps41
        go_upto_region 1 with fail
        rw [← hW0]
        clear hW0
        obtain ⟨xl, x0, x1, x2, x3⟩ := f4_in HX0.out
        obtain ⟨yl, y0, y1, y2, y3⟩ := f4_in HY0.out
        go_wp2_with (first | (go_at_call 60; (with_reducible refine (HA.out _ HG0.out).grows.mono ?_); rintro e2 w2 ⟨rfl, hg2⟩; have HG2 := Lib.hid (HG0.out.trans hg2); have HX2 := Lib.hid (HX0.out.grew hg2); have HY2 := Lib.hid (HY0.out.grew hg2); clear hg2; clear xl x0 x1 x2 x3 yl y0 y1 y2 y3; obtain ⟨xl, x0, x1, x2, x3⟩ := f4_in HX2.out; obtain ⟨yl, y0, y1, y2, y3⟩ := f4_in HY2.out) | (go_at_call 60; (with_reducible refine (HB.out _ HG2.out).grows.mono ?_); rintro e3 w3 ⟨rfl, hg3⟩; have HG3 := Lib.hid (HG2.out.trans hg3); clear hg3))
        go_ret
        exact ⟨rfl, HG2.out⟩
      · have hf : fin = eb := by rw [HV.out, decide_eq_true h1, decide_eq_true h2]; simp
        clear HV h1 h2
        subst hf
        go_enter Try.func41, Try.ntmps41
        go_upto_region 1 with fail
        rw [← hW0]
        clear hW0
        obtain ⟨xl, x0, x1, x2, x3⟩ := f4_in HX0.out
        obtain ⟨yl, y0, y1, y2, y3⟩ := f4_in HY0.out
        go_wp2_with (first | (go_at_call 60; (with_reducible refine (HA.out _ HG0.out).grows.mono ?_); rintro e2 w2 ⟨rfl, hg2⟩; have HG2 := Lib.hid (HG0.out.trans hg2); have HX2 := Lib.hid (HX0.out.grew hg2); have HY2 := Lib.hid (HY0.out.grew hg2); clear hg2; clear xl x0 x1 x2 x3 yl y0 y1 y2 y3; obtain ⟨xl, x0, x1, x2, x3⟩ := f4_in HX2.out; obtain ⟨yl, y0, y1, y2, y3⟩ := f4_in HY2.out) | (go_at_call 60; (with_reducible refine (HB.out _ HG2.out).grows.mono ?_); rintro e3 w3 ⟨rfl, hg3⟩; have HG3 := Lib.hid (HG2.out.trans hg3); clear hg3))
        go_ret
        exact ⟨rfl, HG3.out⟩
    · have e2 : (x.t == y.t) = false := by simpa using h2
      have hf : fin = false := by rw [HV.out, decide_eq_false h2]; simp
      clear HV h1 h2
      subst hf
      go_enter Try.func41, Try.ntmps41
      go_upto_region 1 with fail
      rw [← hW0]
      clear hW0
      obtain ⟨xl, x0, x1, x2, x3⟩ := f4_in HX0.out
      obtain ⟨yl, y0, y1, y2, y3⟩ := f4_in HY0.out
      go_wp2
      go_ret
      exact ⟨rfl, HG0.out⟩
  · have e1 : (x.f == y.f) = false := by simpa using h1
    have hf : fin = false := by rw [HV.out, decide_eq_false h1]; simp
    clear HV h1
    subst hf
    go_enter Try.func41, Try.ntmps41
    go_upto_region 1 with fail
    rw [← hW0]
    clear hW0
    obtain ⟨xl, x0, x1, x2, x3⟩ := f4_in HX0.out
    obtain ⟨yl, y0, y1, y2, y3⟩ := f4_in HY0.out
    go_wp2
    go_ret
    exact ⟨rfl, HG0.out⟩
set_option maxHeartbeats 4000000 in
/-- Is a filter like the one that is looked for? -/
theorem pof1_any (x y : Fv) (hy : y.a.length ≤ 1000000000 ∧ y.b.length ≤ 1000000000) (A : Option Addr) (k : Nat) (B : Option Addr) (j : Nat) (C : Option Addr) (c : Nat) (D : Option Addr) (d : Nat) (fb : Nat) (w : World) (hb : Blok w fb 43 #[.int .i64 x.f, .slice A x.a.length k, .int .i64 x.t, .slice B x.b.length j]) (rA : Row w A (iV x.a)) (rB : Row w B (iV x.b)) (rC : Row w C (iV y.a)) (rD : Row w D (iV y.b)) :
    Gives Try.prog 40 #[.agg #[.int .i64 y.f, .slice C y.a.length c, .int .i64 y.t, .slice D y.b.length d], .pointer (some ⟨fb, 0, none⟩)] w (.bool (sameFv x y)) := by
  have HS : Hid (∀ W, Grew w W → Gives Try.prog 41 #[.agg #[.int .i64 x.f, .slice A x.a.length k, .int .i64 x.t, .slice B x.b.length j], .agg #[.int .i64 y.f, .slice C y.a.length c, .int .i64 y.t, .slice D y.b.length d]] W (.bool (sameFv x y))) := Lib.hid fun W hW => psame32_any x y hy A k B j C c D d W (rA.grew hW) (rB.grew hW) (rC.grew hW) (rD.grew hW)
  clear rA rB rC rD hy
  obtain ⟨W0, hW0⟩ : ∃ W0, W0 = w.alloc (.cells #[.int .i64 y.f, .slice C y.a.length c, .int .i64 y.t, .slice D y.b.length d] 43) := ⟨_, rfl⟩
  have HG0 : Hid (Grew w W0) := Lib.hid (by rw [hW0]; exact (Grew.refl w).alloc _)
  have HY0 : Hid (Blok W0 w.heap.size 43 #[.int .i64 y.f, .slice C y.a.length c, .int .i64 y.t, .slice D y.b.length d]) := Lib.hid (by rw [hW0]; exact Blok.new _ _ _ _ rfl)
  have HX0 := Lib.hid (hb.grew HG0.out)
  clear hb
  generalize sameFv x y = fin at *
  generalize x.a.length = na at *
  generalize x.b.length = nb at *
  generalize y.a.length = ma at *
  generalize y.b.length = mb at *
  unfold Gives
  go_enter Try.func40, Try.ntmps40
  go_upto_region 1 with fail
  rw [← hW0]
  clear hW0
  obtain ⟨xl, x0, x1, x2, x3⟩ := f4_in HX0.out
  obtain ⟨yl, y0, y1, y2, y3⟩ := f4_in HY0.out
  go_wp2_with (go_at_call 41; (with_reducible refine (HS.out _ HG0.out).grows.mono ?_); rintro e2 w2 ⟨rfl, hg2⟩; have HG2 := Lib.hid (HG0.out.trans hg2); clear hg2)
  go_ret
  exact ⟨rfl, HG2.out⟩
/-- Where a filter lies among others. -/
def IxfAt (w : World) (x : Fv) (L : List Fv) (i : Value) (wr : World) : Prop := ∃ q : Nat, q ≤ L.length ∧ i = .int .i64 q ∧ Grew w wr ∧ ∀ (p : Nat) (hp : p < L.length), p < q → sameFv x L[p] = false
set_option maxHeartbeats 4000000 in
set_option maxRecDepth 100000 in
theorem indexf_any (x : Fv) (L : List Fv) (hL : ∀ y ∈ L, y.a.length ≤ 1000000000 ∧ y.b.length ≤ 1000000000) (hn : L.length ≤ 2000000) (A : Option Addr) (k : Nat) (B : Option Addr) (j : Nat) (S : Option Addr) (s : Nat) (fb : Nat) (w : World) (hb : Blok w fb 43 #[.int .i64 x.f, .slice A x.a.length k, .int .i64 x.t, .slice B x.b.length j]) (rA : Row w A (iV x.a)) (rB : Row w B (iV x.b)) (rS : FvsR (PRow w) S L) :
    Calls Try.prog 63 #[.slice S L.length s, .func (.func 40) #[] #[.pointer (some ⟨fb, 0, none⟩)]] w fun e w' => ∃ r : Int, e = .returned (.int .i64 r) ∧ Grew w w' ∧ decide (0 ≤ r) = L.any (sameFv x) := by
  have HP : Hid (∀ y ∈ L, ∀ C c D d W, Grew w W → Row W C (iV y.a) → Row W D (iV y.b) → Gives Try.prog 40 #[.agg #[.int .i64 y.f, .slice C y.a.length c, .int .i64 y.t, .slice D y.b.length d], .pointer (some ⟨fb, 0, none⟩)] W (.bool (sameFv x y))) := Lib.hid fun y hy C c D d W hW h1 h2 => pof1_any x y (hL y hy) A k B j C c D d fb W (hb.grew hW) (rA.grew hW) (rB.grew hW) h1 h2
  have RS := Lib.hid rS
  clear rA rB rS hb hL
  obtain ⟨fin, hfin⟩ : ∃ fin, L.any (sameFv x) = fin := ⟨_, rfl⟩
  rw [hfin]
  have HF := Lib.hid hfin
  clear hfin
  go_enter Try.func63, Try.ntmps63
  go_wp2_with fail
  go_loopw [8] (fun i wr => IxfAt w x L i wr) (fun i _ => L.length - (intOf i).toNat)
  case atStart => exact ⟨0, Nat.zero_le _, rfl, Grew.refl _, fun p hp h => absurd h (Nat.not_lt_zero _)⟩
  case round =>
    obtain ⟨q, hq, rfl, hg, hnn⟩ := hrel
    have HG := Lib.hid hg
    have HN := Lib.hid hnn
    clear hg hnn
    by_cases hlt : q < L.length
    · obtain ⟨b, o, C, c, D, d, rfl, hb, c0, c1, c2, c3, rC, rD⟩ := fvsR_at (RS.out.grew HG.out) hlt
      have HP1 := Lib.hid (HP.out _ (List.getElem_mem hlt) C c D d wr HG.out rC rD)
      have HT : Hid (sameFv x L[q] = true → fin = true) := Lib.hid fun h => by rw [← HF.out]; exact List.any_eq_true.2 ⟨_, List.getElem_mem hlt, h⟩
      have HN2 : Hid (sameFv x L[q] = false → ∀ (p : Nat) (hp : p < L.length), p < q + 1 → sameFv x L[p] = false) := Lib.hid fun h p hp h1 => by
        rcases Nat.lt_or_ge p q with h2 | h2
        · exact HN.out p hp h2
        · obtain rfl : p = q := by omega
          exact h
      generalize L[q] = y at *
      generalize sameFv x y = t at *
      clear HN rC rD
      cases t
      · have HN3 := Lib.hid (HN2.out rfl)
        clear HN2 HT
        go_wp2_with (go_at_call 40; (with_reducible refine HP1.out.grows.mono ?_); rintro e2 w2 ⟨rfl, hg2⟩; have HG2 := Lib.hid (HG.out.trans hg2); clear hg2)
        exact ⟨⟨q + 1, by omega, by go_num, HG2.out, HN3.out⟩, by simp only [intOf]; omega⟩
      · have hf := HT.out rfl
        subst hf
        clear HN2 HT
        go_wp2_with (go_at_call 40; (with_reducible refine HP1.out.grows.mono ?_); rintro e2 w2 ⟨rfl, hg2⟩; have HG2 := Lib.hid (HG.out.trans hg2); clear hg2)
        go_ret
        exact ⟨_, rfl, HG2.out, decide_eq_true (by omega)⟩
    · obtain rfl : q = L.length := by omega
      have hf : fin = false := by
        rw [← HF.out, List.any_eq_false]
        intro y hy
        obtain ⟨p, hp, rfl⟩ := List.getElem_of_mem hy
        rw [HN.out p hp hp]
        decide
      subst hf
      go_wp2
      go_ret
      exact ⟨_, rfl, HG.out, rfl⟩
set_option maxHeartbeats 4000000 in
theorem containsf_any (x : Fv) (L : List Fv) (hL : ∀ y ∈ L, y.a.length ≤ 1000000000 ∧ y.b.length ≤ 1000000000) (hn : L.length ≤ 2000000) (A : Option Addr) (k : Nat) (B : Option Addr) (j : Nat) (S : Option Addr) (s : Nat) (fb : Nat) (w : World) (hb : Blok w fb 43 #[.int .i64 x.f, .slice A x.a.length k, .int .i64 x.t, .slice B x.b.length j]) (rA : Row w A (iV x.a)) (rB : Row w B (iV x.b)) (rS : FvsR (PRow w) S L) :
    Gives Try.prog 39 #[.slice S L.length s, .func (.func 40) #[] #[.pointer (some ⟨fb, 0, none⟩)]] w (.bool (L.any (sameFv x))) := by
  have HI := Lib.hid (indexf_any x L hL hn A k B j S s fb w hb rA rB rS)
  clear hb rA rB rS hL
  generalize L.any (sameFv x) = t at *
  unfold Gives
  go_enter Try.func39, Try.ntmps39
  go_wp2_with fail
  refine HI.out.mono ?_
  rintro e w2 ⟨r, rfl, hg2, hr⟩
  have HG2 := Lib.hid hg2
  clear hg2 HI
  have HR := Lib.hid hr
  clear hr
  go_wp2
  go_ret
  exact ⟨by rw [← HR.out]; rfl, HG2.out⟩
set_option maxHeartbeats 4000000 in
/-- The table that drives. -/
theorem driver_any (order : List Int) (S : Option Addr) (ks : Nat) (v1 v2 v3 v4 v5 : Value) (w : World) (hs : Row w S (iV order)) :
    Gives Try.prog 17 #[.agg #[.slice S order.length ks, v1, v2, v3, v4, v5]] w (.int .i64 (order.head?.getD (-1))) := by
  have HR := Lib.hid hs
  obtain ⟨W0, hW0⟩ : ∃ W0, W0 = w.alloc (.cells #[.slice S order.length ks, v1, v2, v3, v4, v5] 51) := ⟨_, rfl⟩
  have HG0 : Hid (Grew w W0) := Lib.hid (by rw [hW0]; exact (Grew.refl w).alloc _)
  have HX0 : Hid (Blok W0 w.heap.size 51 #[.slice S order.length ks, v1, v2, v3, v4, v5]) := Lib.hid (by rw [hW0]; exact Blok.new _ _ _ _ rfl)
  have q0 := HX0.out.cell 0
  have ql := HX0.out.lt
  simp at q0
  clear hs
  unfold Gives
  rcases order with _ | ⟨a, l⟩
  · simp only [List.length_nil] at hW0 q0 ⊢
    go_enter Try.func17, Try.ntmps17
    go_upto_region 1 with fail
    rw [← hW0]
    clear hW0
    go_wp2
    go_ret
    exact ⟨rfl, HG0.out⟩
  · obtain ⟨b, o, rfl, hb, hc⟩ := rowI_at (HR.out.grew HG0.out) (j := 0) (by simp)
    simp only [List.getElem_cons_zero, Nat.add_zero] at hc
    have e1 : (((a :: l).length : Int) == 0) = false := by rw [beq_eq_false_iff_ne, List.length_cons]; omega
    have e2 : (0 : Int) < ((a :: l).length : Int) := by rw [List.length_cons]; omega
    show Calls _ _ _ _ fun e w' => e = .returned (.int .i64 a) ∧ _
    generalize (a :: l).length = n at *
    go_enter Try.func17, Try.ntmps17
    go_upto_region 1 with fail
    rw [← hW0]
    clear hW0
    go_wp2
    go_ret
    exact ⟨rfl, HG0.out⟩
end Go.Proofs.Ytoaciliojdaoaaa

/- Layer 32: the conditions and the keys that are asked at a table, by the program: some row of one's own. Condition: conditions that lie in memory that is there, no more than three thousand. -/
namespace Go.Proofs.Ytoaciliojdaoaaa
open Go.RowKit
attribute [local go_sem] more_cell more_frozen more_more more_setCell more_of_drew more_of_drewN lt_more le_more past_cell past_cell2 past_frozen past_frozen2 past_setCell past_setCell2 mid_cell mid_frozen mid_setCell
attribute [local go_sem ↓] Go.wp_at_zero Go.wp_at_succ

theorem contains32_any (l : List Int) (v : Int) (A : Option Addr) (k : Nat) (hl : l.length ≤ 1000000) (w : World) (ra : Row w A (iV l)) :
    Gives Try.prog 65 #[.slice A l.length k, .int .i64 v] w (.bool (decide (0 ≤ ixI l v))) := by
  have HI := Lib.hid (index31_any l v A k hl w ra)
  clear ra
  generalize ixI l v = r at *
  unfold Gives
  go_enter Try.func65, Try.ntmps65
  go_wp2_with fail
  refine HI.out.grows.mono ?_
  rintro e w2 ⟨rfl, hg2⟩
  have HG2 := Lib.hid hg2
  clear hg2 HI
  go_wp2
  go_ret
  exact ⟨rfl, HG2.out⟩
/-- Some row of one's own that is gathered. -/
def GaW (v : World) (T : TypeId) (sz m : Nat) (x : Value) (wr : World) : Prop := ∃ (A : Option Addr) (c : Nat) (xs : List Value), x = .slice A m c ∧ Grew v wr ∧ wr.ownsRow v.heap.size T sz (.slice A m c) m xs
theorem GaW.nil (v : World) (T : TypeId) (sz : Nat) : GaW v T sz 0 (.slice none 0 0) v := ⟨none, 0, [], rfl, Grew.refl v, own_none _ _ _ _⟩
def AskAt (v : World) (n : Nat) (x i : Value) (wr : World) : Prop := ∃ q m : Nat, q ≤ n ∧ m ≤ q ∧ i = .int .i64 q ∧ GaW v 27 9 m x wr
def AskI (v : World) (n : Nat) (z i : Value) (wr : World) : Prop := ∃ (p : Nat) (y : Int), p ≤ n ∧ i = .int .i64 p ∧ z = .int .i64 y ∧ Grew v wr
def SomeS (w : World) (e : Ending) (w' : World) : Prop := ∃ A n k, e = .returned (.slice A n k) ∧ Grew w w'
set_option maxHeartbeats 8000000 in
set_option maxRecDepth 100000 in
theorem pasked_any (core : Int) (rs : List Ex) (at' : Int) (tables : List Int) (T : Option Addr) (kt : Nat) (A : Option Addr) (n k : Nat) (B : Option Addr) (m j : Nat) (C : Option Addr) (c : Nat) (D : Option Addr) (ll d : Nat) (E : Option Addr) (qn en : Nat) (w : World) (hn : n ≤ 100000) (hr : rs.length ≤ 100000) (hx : ∀ x ∈ rs, x.nodes ≤ 1000000) (ht : tables.length ≤ 1000000) (rC : ExsR (PRow w) C rs) (rT : Row w T (iV tables)) :
    Calls Try.prog 42 #[.agg (nqC core A n k B m j C rs.length c D ll d E qn en), .slice T tables.length kt, .int .i64 at'] w (SomeS w) := by
  have HU : Hid (∀ x ∈ rs, ∀ A k W, ExsR (PRow W) A x.l → Calls Try.prog 64 #[exV x A k] W (OwnI W (useX x))) := Lib.hid fun x hx' A k W hA => uses_any x A k (hx x hx') W hA
  have HUl : Hid (∀ x ∈ rs, (useX x).length ≤ 1000000) := Lib.hid fun x hx' => Nat.le_trans (useX_len x) (hx x hx')
  have HIx : Hid (∀ (t : Int) W, Grew w W → Gives Try.prog 53 #[.slice T tables.length kt, .int .i64 t] W (.int .i64 (ixI tables t))) := Lib.hid fun t W hW => index31_any tables t T kt ht W (rT.grew hW)
  have RC := Lib.hid rC
  clear rC rT hx
  obtain ⟨W0, hW0⟩ : ∃ W0, W0 = w.alloc (.cells (nqC core A n k B m j C rs.length c D ll d E qn en) 37) := ⟨_, rfl⟩
  have HG0 : Hid (Grew w W0) := Lib.hid (by rw [hW0]; exact (Grew.refl w).alloc _)
  have HX0 : Hid (Blok W0 w.heap.size 37 (nqC core A n k B m j C rs.length c D ll d E qn en)) := Lib.hid (by rw [hW0]; exact Blok.new _ _ _ _ rfl)
  unfold nqC at *
  have hw1 : IntKind.i64.wrap ((n : Int) + 1) = (n : Int) + 1 := IntWalk.i64_in _ (by omega)
  clear ht hn
  go_enter Try.func42, Try.ntmps42
  go_upto_region 1 with fail
  rw [← hW0]
  clear hW0
  generalize w.heap.size = bx at *
  obtain ⟨xl, x0, x1, x2, x3, x4, x5⟩ := nm_in HX0.out
  go_wp2_with fail
  clear xl x0 x1 x2 x3 x4 x5
  go_loopw [7, 17] (fun v i wr => AskAt W0 rs.length v i wr) (fun _ i _ => rs.length - (intOf i).toNat)
  case atStart => exact ⟨0, 0, Nat.zero_le _, Nat.le_refl _, rfl, GaW.nil _ _ _⟩
  case round =>
    obtain ⟨q, mm, hq, hm, rfl, A1, c1, xs1, rfl, hg, ho⟩ := hrel
    have HG := Lib.hid hg
    have HO := Lib.hid ho
    clear hg ho
    by_cases hlt : q < rs.length
    · obtain ⟨b, o, PA, ka, rfl, hpa, h9⟩ := exsR_nine (RC.out.grew (HG0.out.trans HG.out)) hlt
      have HU1 : Hid (∀ W, Grew wr W → Calls Try.prog 64 #[exV rs[q] PA ka] W (OwnI W (useX rs[q]))) := Lib.hid fun W hW => HU.out _ (List.getElem_mem hlt) PA ka W (hpa.grew hW)
      have hul := HUl.out _ (List.getElem_mem hlt)
      obtain ⟨p0, a0, a1, a2, a3, a4, a5, a6, a7, a8⟩ := h9
      clear hpa
      generalize rs[q] = y at *
      generalize useX y = us at *
      obtain ⟨op, tab, name, tt, cc, vk, vi, vs, ls⟩ := y
      simp only [exV, Ex.op, Ex.tab, Ex.name, Ex.t, Ex.c, Ex.vk, Ex.vi, Ex.vs, Ex.l] at a0 a1 a2 a3 a4 a5 a6 a7 a8 HU1
      go_upto_region 5 with fail
      have HB4 : Hid (Blok (wr.alloc (.cells #[.int .i64 op, .string tab, .string name, .int .i64 tt, .int .i64 cc, .int .i64 vk, .int .i64 vi, .string vs, .slice PA ls.length ka] 27)) wr.heap.size 27 #[.int .i64 op, .string tab, .string name, .int .i64 tt, .int .i64 cc, .int .i64 vk, .int .i64 vi, .string vs, .slice PA ls.length ka]) := Lib.hid (Blok.new _ _ _ _ rfl)
      have HG4 : Hid (Grew wr (wr.alloc (.cells #[.int .i64 op, .string tab, .string name, .int .i64 tt, .int .i64 cc, .int .i64 vk, .int .i64 vi, .string vs, .slice PA ls.length ka] 27))) := Lib.hid ((Grew.refl wr).alloc _)
      clear p0 a0 a1 a2 a3 a4 a5 a6 a7 a8
      generalize (wr.alloc (.cells #[.int .i64 op, .string tab, .string name, .int .i64 tt, .int .i64 cc, .int .i64 vk, .int .i64 vi, .string vs, .slice PA ls.length ka] 27)) = W4 at *
      generalize wr.heap.size = be at *
      obtain ⟨bl, b0, b1, b2, b3, b4, b5, b6, b7, b8⟩ := blok9c HB4.out
      go_wp2_with (go_at_call 64; (with_reducible refine (HU1.out _ HG4.out).mono ?_); rintro e5 w5 ⟨X, kx, rfl, hg5, ho5⟩; have HG5 := Lib.hid (HG4.out.trans hg5); have HB5 := Lib.hid (HB4.out.grew hg5); have HR5 := Lib.hid (own_rowI ho5); clear hg5 ho5)
      clear bl b0 b1 b2 b3 b4 b5 b6 b7 b8
      obtain ⟨wo, rfl⟩ : ∃ wo : World, wo = wr := ⟨_, rfl⟩
      go_loopw [10, 24] (fun z i wx => AskI w5 us.length z i wx) (fun _ i _ => us.length - (intOf i).toNat)
      case atStart => exact ⟨0, 0, Nat.zero_le _, rfl, rfl, Grew.refl _⟩
      case round =>
        obtain ⟨p, z, hp, rfl, rfl, hgi⟩ := hrel
        have HGi := Lib.hid hgi
        clear hgi
        by_cases hpl : p < us.length
        · obtain ⟨b7, o7, rfl, hb7, hc7⟩ := rowI_at (HR5.out.grew HGi.out) hpl
          have HI1 : Hid (∀ W, Grew w W → Gives Try.prog 53 #[.slice T tables.length kt, .int .i64 us[p]] W (.int .i64 (ixI tables us[p]))) := Lib.hid fun W hW => HIx.out _ W hW
          have HW := Lib.hid ((HG0.out.trans HG.out).trans (HG5.out.trans HGi.out))
          generalize ixI tables us[p] = r at *
          generalize us[p] = u at *
          by_cases hr0 : r < 0
          · have e1 : decide (r < (0 : Int)) = true := decide_eq_true hr0
            have HXi := Lib.hid (HX0.out.grew (HG.out.trans (HG5.out.trans HGi.out)))
            go_upto_region 10 with (go_at_call 53; (with_reducible refine (HI1.out _ HW.out).grows.mono ?_); rintro e6 w6 ⟨rfl, hg6⟩; have HG6 := Lib.hid (HGi.out.trans hg6); have HX6 := Lib.hid (HXi.out.grew hg6); clear hg6)
            clear hb7 hc7
            obtain ⟨xl, x0, x1, x2, x3, x4, x5⟩ := nm_in HX6.out
            go_wp2_with fail
            exact ⟨⟨p + 1, _, by omega, by go_num, rfl, HG6.out⟩, by simp only [intOf]; omega⟩
          · have e1 : decide (r < (0 : Int)) = false := decide_eq_false hr0
            go_upto_region 10 with (go_at_call 53; (with_reducible refine (HI1.out _ HW.out).grows.mono ?_); rintro e6 w6 ⟨rfl, hg6⟩; have HG6 := Lib.hid (HGi.out.trans hg6); clear hg6)
            clear hb7 hc7
            go_wp2_with fail
            exact ⟨⟨p + 1, _, by omega, by go_num, rfl, HG6.out⟩, by simp only [intOf]; omega⟩
        · obtain rfl : p = us.length := by omega
          have HB6 := Lib.hid (HB5.out.grew HGi.out)
          have HGf := Lib.hid (HG5.out.trans HGi.out)
          have HO6 := Lib.hid (own_grewE HO.out HGf.out)
          obtain ⟨bl, b0, b1, b2, b3, b4, b5, b6, b7, b8⟩ := blok9c HB6.out
          by_cases hz : z = at'
          · have e1 : (z == at') = true := by simpa using hz
            clear hz
            go_wp2_with (at_builtin; refine wpList_appB rfl _ _ 22 27 9 rfl W0.heap.size (.agg #[.int .i64 0, .string ⟨#[]⟩, .string ⟨#[]⟩, .int .i64 0, .int .i64 0, .int .i64 0, .int .i64 0, .string ⟨#[]⟩, .slice none 0 0]) 112 Try.underlying22 infoE rfl (by decide) (by decide) _ mm xs1 rfl (own_alloc HO6.out _) _ 1 1 [.int .i64 op, .string tab, .string name, .int .i64 tt, .int .i64 cc, .int .i64 vk, .int .i64 vi, .string vs, .slice PA ls.length ka] rfl rfl (row_new _ 27 _ #[.int .i64 op, .string tab, .string name, .int .i64 tt, .int .i64 cc, .int .i64 vk, .int .i64 vi, .string vs, .slice PA ls.length ka] rfl) (by simp [Value.oneCell']) (by omega) (by rw [World.size_alloc]; have := (HG.out.trans HGf.out).size; omega) ?_; intro A8 c8 w8 ho8 hg8; have HO8 := Lib.hid ho8; have HB8 := Lib.hid hg8; clear ho8 hg8)
            have HG8 := Lib.hid (((HG.out.trans HGf.out).alloc _).grown HB8.out (own_base HO.out))
            exact ⟨⟨q + 1, mm + 1, by omega, by omega, by go_num, A8, c8, _, rfl, HG8.out, HO8.out⟩, by simp only [intOf]; omega⟩
          · have e1 : (z == at') = false := by simpa using hz
            clear hz
            go_wp2_with fail
            exact ⟨⟨q + 1, mm, by omega, by omega, by go_num, A1, c1, xs1, rfl, HG.out.trans HGf.out, HO6.out⟩, by simp only [intOf]; omega⟩
    · obtain rfl : q = rs.length := by omega
      go_wp2
      go_ret
      exact ⟨_, _, _, rfl, HG0.out.trans HG.out⟩
end Go.Proofs.Ytoaciliojdaoaaa

/- Layer 32: the edges between a table and those ahead of it, by the program: some row of one's own. Condition: edges that lie in memory that is there, no more than three thousand. -/
namespace Go.Proofs.Ytoaciliojdaoaaa
open Go.RowKit
attribute [local go_sem] more_cell more_frozen more_more more_setCell more_of_drew more_of_drewN lt_more le_more past_cell past_cell2 past_frozen past_frozen2 past_setCell past_setCell2 mid_cell mid_frozen mid_setCell
attribute [local go_sem ↓] Go.wp_at_zero Go.wp_at_succ

def KysAt (v : World) (n : Nat) (x i : Value) (wr : World) : Prop := ∃ q m : Nat, q ≤ n ∧ m ≤ q ∧ i = .int .i64 q ∧ GaW v 68 4 m x wr
set_option maxHeartbeats 8000000 in
set_option maxRecDepth 100000 in
theorem pkeys_any (core : Int) (es : List Ed) (t : Int) (ahead : List Int) (T : Option Addr) (kt : Nat) (A : Option Addr) (n k : Nat) (B : Option Addr) (j : Nat) (C : Option Addr) (p c : Nat) (D : Option Addr) (ll d : Nat) (E : Option Addr) (qn en : Nat) (w : World) (he : es.length ≤ 100000) (ht : ahead.length ≤ 1000000) (rB : EdsR (PRow w) B es) (rT : Row w T (iV ahead)) :
    Calls Try.prog 43 #[.agg (nqC core A n k B es.length j C p c D ll d E qn en), .slice T ahead.length kt, .int .i64 t] w (SomeS w) := by
  have HCo : Hid (∀ (a : Int) W, Grew w W → ∃ b : Bool, Gives Try.prog 65 #[.slice T ahead.length kt, .int .i64 a] W (.bool b)) := Lib.hid fun a W hW => ⟨_, contains32_any ahead a T kt ht W (rT.grew hW)⟩
  have RB := Lib.hid rB
  clear rB rT
  obtain ⟨W0, hW0⟩ : ∃ W0, W0 = w.alloc (.cells (nqC core A n k B es.length j C p c D ll d E qn en) 37) := ⟨_, rfl⟩
  have HG0 : Hid (Grew w W0) := Lib.hid (by rw [hW0]; exact (Grew.refl w).alloc _)
  have HX0 : Hid (Blok W0 w.heap.size 37 (nqC core A n k B es.length j C p c D ll d E qn en)) := Lib.hid (by rw [hW0]; exact Blok.new _ _ _ _ rfl)
  unfold nqC at *
  clear ht
  go_enter Try.func43, Try.ntmps43
  go_upto_region 1 with fail
  rw [← hW0]
  clear hW0
  generalize w.heap.size = bx at *
  obtain ⟨xl, x0, x1, x2, x3, x4, x5⟩ := nm_in HX0.out
  go_wp2_with fail
  clear xl x0 x1 x2 x3 x4 x5
  go_loopw [7, 13] (fun v i wr => KysAt W0 es.length v i wr) (fun _ i _ => es.length - (intOf i).toNat)
  case atStart => exact ⟨0, 0, Nat.zero_le _, Nat.le_refl _, rfl, GaW.nil _ _ _⟩
  case round =>
    obtain ⟨q, mm, hq, hm, rfl, A1, c1, xs1, rfl, hg, ho⟩ := hrel
    have HG := Lib.hid hg
    have HO := Lib.hid ho
    clear hg ho
    by_cases hlt : q < es.length
    · obtain ⟨b, o, rfl, hb0, a0, a1, a2, a3⟩ := edsR_at (RB.out.grew (HG0.out.trans HG.out)) hlt
      generalize es[q] = y at *
      obtain ⟨ya, yac, yb, ybc⟩ := y
      simp only at a0 a1 a2 a3
      go_upto_region 5 with fail
      have HBe : Hid (Blok (wr.alloc (.cells #[.int .i64 ya, .int .i64 yac, .int .i64 yb, .int .i64 ybc] 68)) wr.heap.size 68 #[.int .i64 ya, .int .i64 yac, .int .i64 yb, .int .i64 ybc]) := Lib.hid (Blok.new _ _ _ _ rfl)
      have HGe : Hid (Grew W0 (wr.alloc (.cells #[.int .i64 ya, .int .i64 yac, .int .i64 yb, .int .i64 ybc] 68))) := Lib.hid (HG.out.alloc _)
      have HOe : Hid ((wr.alloc (.cells #[.int .i64 ya, .int .i64 yac, .int .i64 yb, .int .i64 ybc] 68)).ownsRow W0.heap.size 68 4 (.slice A1 mm c1) mm xs1) := Lib.hid (own_alloc HO.out _)
      have HLt : Hid (W0.heap.size ≤ wr.heap.size ∧ ∀ b, (Value.slice A1 mm c1).ownBlock = some b → b ≠ wr.heap.size) := Lib.hid ⟨HG.out.size, fun b hb => by have := own_lt HO.out b hb; omega⟩
      clear hb0 a0 a1 a2 a3
      generalize (wr.alloc (.cells #[.int .i64 ya, .int .i64 yac, .int .i64 yb, .int .i64 ybc] 68)) = W4 at *
      generalize wr.heap.size = be at *
      obtain ⟨r0, d0, d1', d2, d3, f0, f1, f2, f3⟩ := ed_in HBe.out
      -- behind the turn: some edge in the block
      have hturn : ∃ (W5 : World) (za zac zb zbc : Int), Blok W5 be 68 #[.int .i64 za, .int .i64 zac, .int .i64 zb, .int .i64 zbc] ∧ Grew W0 W5 ∧ W5.ownsRow W0.heap.size 68 4 (.slice A1 mm c1) mm xs1 ∧ (ya = t → W5 = (((W4.setCell ⟨be, 0, none⟩ (.int .i64 yb)).setCell ⟨be, 1, none⟩ (.int .i64 ybc)).setCell ⟨be, 2, none⟩ (.int .i64 ya)).setCell ⟨be, 3, none⟩ (.int .i64 yac)) ∧ (¬ ya = t → W5 = W4) := by
        by_cases h : ya = t
        · refine ⟨_, yb, ybc, ya, yac, ed_set HBe.out _ _ _ _, grew_set4 HGe.out HLt.out.1 _ _ _ _, ?_, fun _ => rfl, fun h' => absurd h h'⟩
          exact own_same (own_same (own_same (own_same HOe.out fun i hi => heap_set _ _ (fun e => HLt.out.2 i hi e)) fun i hi => heap_set _ _ (fun e => HLt.out.2 i hi e)) fun i hi => heap_set _ _ (fun e => HLt.out.2 i hi e)) fun i hi => heap_set _ _ (fun e => HLt.out.2 i hi e)
        · exact ⟨W4, ya, yac, yb, ybc, HBe.out, HGe.out, HOe.out, fun h' => absurd h' h, fun _ => rfl⟩
      obtain ⟨W5, za, zac, zb, zbc, hB5, hG5, hO5, hE1, hE2⟩ := hturn
      have HB5 := Lib.hid hB5
      have HG5 := Lib.hid hG5
      have HO5 := Lib.hid hO5
      clear hB5 hG5 hO5
      obtain ⟨bb, hbb⟩ := HCo.out za W5 (HG0.out.trans HG5.out)
      have HCa := Lib.hid hbb
      clear hbb
      by_cases h : ya = t
      · have hE := hE1 h
        have e1 : (ya == t) = true := by simpa using h
        clear hE1 hE2 h
        go_upto_region 7 with fail
        rw [← hE]
        clear hE r0 d0 d1' d2 d3 f0 f1 f2 f3
        obtain ⟨r0, d0, d1', d2, d3, _, _, _, _⟩ := ed_in HB5.out
        by_cases hz : zb = t
        · have e2 : (zb == t) = true := by simpa using hz
          clear hz
          cases bb
          · go_wp2_with (go_at_call 65; (with_reducible refine HCa.out.grows.mono ?_); rintro e6 w6 ⟨rfl, hg6⟩; have HG6 := Lib.hid (HG5.out.trans hg6); have HO6 := Lib.hid (own_grewE HO5.out hg6); clear hg6)
            exact ⟨⟨q + 1, mm, by omega, by omega, by go_num, A1, c1, xs1, rfl, HG6.out, HO6.out⟩, by simp only [intOf]; omega⟩
          · go_upto_region 8 with (go_at_call 65; (with_reducible refine HCa.out.grows.mono ?_); rintro e6 w6 ⟨rfl, hg6⟩; have HG6 := Lib.hid (HG5.out.trans hg6); have HO6 := Lib.hid (own_grewE HO5.out hg6); have HB6 := Lib.hid (HB5.out.grew hg6); clear hg6)
            clear r0 d0 d1' d2 d3
            obtain ⟨r0, d0, d1', d2, d3, _, _, _, _⟩ := ed_in HB6.out
            go_wp2_with (at_builtin; refine wpList_appB rfl _ _ 34 68 4 rfl W0.heap.size (.agg #[.int .i64 0, .int .i64 0, .int .i64 0, .int .i64 0]) 32 Try.underlying34 infoEd rfl (by decide) (by decide) _ mm xs1 rfl (own_alloc HO6.out _) _ 1 1 [.int .i64 za, .int .i64 zac, .int .i64 zb, .int .i64 zbc] rfl rfl (row_new _ 68 _ #[.int .i64 za, .int .i64 zac, .int .i64 zb, .int .i64 zbc] rfl) (by simp [Value.oneCell']) (by omega) (by rw [World.size_alloc]; have := HG6.out.size; omega) ?_; intro A8 c8 w8 ho8 hg8; have HO8 := Lib.hid ho8; have HB8 := Lib.hid hg8; clear ho8 hg8)
            have HG8 := Lib.hid ((HG6.out.alloc _).grown HB8.out (own_base HO6.out))
            exact ⟨⟨q + 1, mm + 1, by omega, by omega, by go_num, A8, c8, _, rfl, HG8.out, HO8.out⟩, by simp only [intOf]; omega⟩
        · have e2 : (zb == t) = false := by simpa using hz
          clear hz
          go_wp2_with fail
          exact ⟨⟨q + 1, mm, by omega, by omega, by go_num, A1, c1, xs1, rfl, HG5.out, HO5.out⟩, by simp only [intOf]; omega⟩
      · have hE := hE2 h
        have e1 : (ya == t) = false := by simpa using h
        clear hE1 hE2 h
        subst hE
        clear r0 d0 d1' d2 d3 f0 f1 f2 f3
        have hBB := HBe.out
        obtain ⟨r0, d0, d1', d2, d3, _, _, _, _⟩ := ed_in HBe.out
        go_upto_region 7 with fail
        clear r0 d0 d1' d2 d3
        obtain ⟨r0, d0, d1', d2, d3, _, _, _, _⟩ := ed_in HB5.out
        by_cases hz : zb = t
        · have e2 : (zb == t) = true := by simpa using hz
          clear hz
          cases bb
          · go_wp2_with (go_at_call 65; (with_reducible refine HCa.out.grows.mono ?_); rintro e6 w6 ⟨rfl, hg6⟩; have HG6 := Lib.hid (HG5.out.trans hg6); have HO6 := Lib.hid (own_grewE HO5.out hg6); clear hg6)
            exact ⟨⟨q + 1, mm, by omega, by omega, by go_num, A1, c1, xs1, rfl, HG6.out, HO6.out⟩, by simp only [intOf]; omega⟩
          · go_upto_region 8 with (go_at_call 65; (with_reducible refine HCa.out.grows.mono ?_); rintro e6 w6 ⟨rfl, hg6⟩; have HG6 := Lib.hid (HG5.out.trans hg6); have HO6 := Lib.hid (own_grewE HO5.out hg6); have HB6 := Lib.hid (HB5.out.grew hg6); clear hg6)
            clear r0 d0 d1' d2 d3
            obtain ⟨r0, d0, d1', d2, d3, _, _, _, _⟩ := ed_in HB6.out
            go_wp2_with (at_builtin; refine wpList_appB rfl _ _ 34 68 4 rfl W0.heap.size (.agg #[.int .i64 0, .int .i64 0, .int .i64 0, .int .i64 0]) 32 Try.underlying34 infoEd rfl (by decide) (by decide) _ mm xs1 rfl (own_alloc HO6.out _) _ 1 1 [.int .i64 za, .int .i64 zac, .int .i64 zb, .int .i64 zbc] rfl rfl (row_new _ 68 _ #[.int .i64 za, .int .i64 zac, .int .i64 zb, .int .i64 zbc] rfl) (by simp [Value.oneCell']) (by omega) (by rw [World.size_alloc]; have := HG6.out.size; omega) ?_; intro A8 c8 w8 ho8 hg8; have HO8 := Lib.hid ho8; have HB8 := Lib.hid hg8; clear ho8 hg8)
            have HG8 := Lib.hid ((HG6.out.alloc _).grown HB8.out (own_base HO6.out))
            exact ⟨⟨q + 1, mm + 1, by omega, by omega, by go_num, A8, c8, _, rfl, HG8.out, HO8.out⟩, by simp only [intOf]; omega⟩
        · have e2 : (zb == t) = false := by simpa using hz
          clear hz
          go_wp2_with fail
          exact ⟨⟨q + 1, mm, by omega, by omega, by go_num, A1, c1, xs1, rfl, HG5.out, HO5.out⟩, by simp only [intOf]; omega⟩
    · obtain rfl : q = es.length := by omega
      go_wp2
      go_ret
      exact ⟨_, _, _, rfl, HG0.out.trans HG.out⟩
end Go.Proofs.Ytoaciliojdaoaaa

/- Layer 32: numbers but one; a plan's pipes, as far as their needs go: helpers. Condition: memory that is there. -/
namespace Go.Proofs.Ytoaciliojdaoaaa
open Go.RowKit
attribute [local go_sem] more_cell more_frozen more_more more_setCell more_of_drew more_of_drewN lt_more le_more past_cell past_cell2 past_frozen past_frozen2 past_setCell past_setCell2 mid_cell mid_frozen mid_setCell
attribute [local go_sem ↓] Go.wp_at_zero Go.wp_at_succ

theorem pipe1_any (i t : Int) (g : Nat) (w : World) (hb : Blok w g 3 #[.int .i64 t]) : Calls Try.prog 67 #[.int .i64 i, .pointer (some ⟨g, 0, none⟩)] w fun e w' => e = .returned (.bool (decide (i = t))) ∧ w' = w := by
  have q0 := hb.cell 0
  have ql := hb.lt
  simp at q0
  clear hb
  by_cases h : i = t
  · have e1 : (i == t) = true := by simpa using h
    rw [decide_eq_true h]
    clear h
    go_enter Try.func67, Try.ntmps67
    go_wp2
    go_ret
    exact ⟨rfl, rfl⟩
  · have e1 : (i == t) = false := by simpa using h
    rw [decide_eq_false h]
    clear h
    go_enter Try.func67, Try.ntmps67
    go_wp2
    go_ret
    exact ⟨rfl, rfl⟩
/-- Numbers but one: slices.DeleteFunc with the closure, over numbers of one's own. -/
theorem pdel_own (t : Int) (l : List Int) (hz : l.length ≤ 1000000) (A : Option Addr) (c0 base : Nat) (g : Nat) (w : World) (hb : Blok w g 3 #[.int .i64 t]) (hgb : g < base)
    (ho : w.ownsRow base 3 1 (.slice A l.length c0) l.length (iV l)) :
    Calls Try.prog 66 #[.slice A l.length c0, .func (.func 67) #[] #[.pointer (some ⟨g, 0, none⟩)]] w fun en w' => en = .returned (.slice A (l.filter fun i => !decide (i = t)).length c0) ∧
      w'.ownsRow base 3 1 (.slice A (l.filter fun i => !decide (i = t)).length c0) (l.filter fun i => !decide (i = t)).length (iV (l.filter fun i => !decide (i = t))) ∧ w.grownBy w' (Value.slice A l.length c0).ownBlock := by
  have HP : ∀ (i : Int) (W : World), Blok W g 3 #[.int .i64 t] → FnGives Try.prog 67 #[.pointer (some ⟨g, 0, none⟩)] #[.int .i64 i] (.bool (decide (i = t))) W := fun i W hW =>
    (pipe1_any i t g W hW).mono fun e w' h => ⟨h.1, 0, h.2⟩
  obtain ⟨p, hp⟩ : ∃ p : Int → Bool, (fun i => decide (i = t)) = p := ⟨_, rfl⟩
  have hp' : ∀ i, decide (i = t) = p i := fun i => by rw [← hp]
  simp only [hp'] at HP ⊢
  clear hp hp'
  have hfl := List.length_filter_le (fun t => !p t) l
  rcases ho.2 with ⟨h1, h2⟩ | ⟨g', cap, cur, h1, hbase, hgb', r1, r2, r3, r4⟩
  · injection h1 with h1 h1' h1''
    subst h1 h1''
    have h0 : l = [] := List.eq_nil_of_length_eq_zero h2
    subst h0
    clear HP hb
    go_enter Try.func66, Try.ntmps66
    go_wp2_with (go_at_call 86; refine (Try.slices_IndexFunc_empty (α := Int) none 0 _ w).mono ?_; rintro e w' ⟨rfl, rfl⟩)
    go_ret
    exact ⟨rfl, ho, World.grownBy.refl _ _⟩
  · injection h1 with h1 _ h1''
    subst h1 h1''
    have hH : Go.Sort.Holds (Value.int .i64) w g' 0 l.toArray := holds_of_blockI hgb' (by simpa [iV] using r4)
    have eg : ∀ args w, (callFunc 67 args).run Try.prog w = .ok (.enter 67 args) w := enters_of Try.func67 (by kernel_rfl) rfl
    have hpa : PredAt Try.prog 67 #[.pointer (some ⟨g, 0, none⟩)] (Value.int .i64) p w := fun W t hbel => HP t W (hb.grew (Grew.of_below hbel))
    have hpo : PredOver Try.prog 67 #[.pointer (some ⟨g, 0, none⟩)] (Value.int .i64) p g' 0 l.toArray.size w := fun n os dk t _ => HP t _ (hb.grown (grownBy_sortedI dk) (fun e => by injection e with e; omega))
    refine (Try.slices_DeleteFunc (Value.int .i64) (fun _ => rfl) p 67 #[.pointer (some ⟨g, 0, none⟩)] eg 0 Try.zeroValue3 g' 0 c0 l.toArray w hpa hpo hH (by simp; omega) (by simp; omega)).mono ?_
    rintro en w' ⟨rfl, q, rfl⟩
    refine ⟨rfl, ?_, ?_⟩
    · have := Lib.ownsRow_putRow (q := q) (k := (l.filter fun t => !p t).length) (ys := (l.filter fun t => !p t) ++ List.replicate (l.length - (l.filter fun t => !p t).length) 0) ho (by rw [List.length_append, List.length_replicate]; omega) hfl
      rw [List.take_left] at this
      exact this
    · have := grownBy_sortedI (w := w) (g := g') (n := q) (os := #[]) ((l.filter fun t => !p t) ++ List.replicate (l.length - (l.filter fun t => !p t).length) 0).toArray
      rw [Sort.grow_empty] at this
      exact this
/-- Which filters go to a table: their places, and the tables that they come from. -/
def filtP (L : List Fv) (t : Int) (p : Nat) : List (Int × Int) := (List.range p).filterMap fun (i : Nat) => if (L.getD i default).t = t then some ((i : Int), (L.getD i default).f) else none
theorem filtP_put {L : List Fv} {t : Int} {p : Nat} (hp : p < L.length) (h : L[p].t = t) : filtP L t (p + 1) = filtP L t p ++ [((p : Int), L[p].f)] := by
  have e : L[p]?.getD default = L[p] := by simp [hp]
  unfold filtP
  rw [List.range_succ, List.filterMap_append]
  simp [e, h]
theorem filtP_skip {L : List Fv} {t : Int} {p : Nat} (hp : p < L.length) (h : ¬ L[p].t = t) : filtP L t (p + 1) = filtP L t p := by
  have e : L[p]?.getD default = L[p] := by simp [hp]
  unfold filtP
  rw [List.range_succ, List.filterMap_append]
  simp [e, h]
theorem filtP_len (L : List Fv) (t : Int) (p : Nat) : (filtP L t p).length ≤ p := by
  unfold filtP
  exact Nat.le_trans (List.length_filterMap_le _ _) (by rw [List.length_range]; exact Nat.le_refl p)
theorem filtP_mem {L : List Fv} {t x : Int} : x ∈ rcP (filtP L t L.length) ↔ ∃ v ∈ L, v.t = t ∧ v.f = x := by
  unfold rcP filtP
  rw [List.mem_map]
  constructor
  · rintro ⟨p, hp, rfl⟩
    obtain ⟨i, hi, hx⟩ := List.mem_filterMap.1 hp
    have hi' := List.mem_range.1 hi
    have e : L.getD i default = L[i] := by simp [List.getD, hi']
    rw [e] at hx
    by_cases c : L[i].t = t
    · rw [if_pos c] at hx
      cases hx
      exact ⟨_, List.getElem_mem hi', c, rfl⟩
    · rw [if_neg c] at hx
      cases hx
  · rintro ⟨v, hv, h1, h2⟩
    obtain ⟨i, hi, rfl⟩ := List.getElem_of_mem hv
    refine ⟨((i : Int), L[i].f), List.mem_filterMap.2 ⟨i, List.mem_range.2 hi, ?_⟩, h2⟩
    have e : L.getD i default = L[i] := by simp [List.getD, hi]
    rw [e, if_pos h1]
/-- What a pipe needs, as it is gathered; as it is handed back. -/
def needL (L : List Fv) (order : List Int) (cnt : Nat) (t : Nat) : List Int := if order.head? = some (t : Int) then (risI cnt).filter fun i => !decide (i = (t : Int)) else rcP (filtP L t L.length)
def needS (L : List Fv) (order : List Int) (cnt : Nat) (t : Nat) : List Int := Lib.compact (sortI (needL L order cnt t))
def needsA (L : List Fv) (order : List Int) (cnt m : Nat) : List (List Int) := (List.range m).map fun (t : Nat) => needS L order cnt t
theorem needsA_len (L : List Fv) (order : List Int) (cnt m : Nat) : (needsA L order cnt m).length = m := by simp [needsA]
theorem needsA_succ (L : List Fv) (order : List Int) (cnt m : Nat) : needsA L order cnt (m + 1) = needsA L order cnt m ++ [needS L order cnt m] := by
  unfold needsA
  rw [List.range_succ, List.map_append]
  rfl
theorem needL_len (L : List Fv) (order : List Int) (cnt : Nat) (t : Nat) : (needL L order cnt t).length ≤ cnt + L.length := by
  unfold needL
  split
  · have := List.length_filter_le (fun i => !decide (i = (t : Int))) (risI cnt)
    rw [risI_len] at this
    omega
  · rw [rcP_len]
    have := filtP_len L t L.length
    omega
section
variable {v wr : World} {l : List (Int × Int)} {y : Int} {A B : Option Addr} {c d : Nat}
theorem Two.cell (s : Two v l A c B d wr) {b : Nat} (hb : b < v.heap.size) (i : Nat) (x : Value) : Two v l A c B d (wr.setCell ⟨b, i, none⟩ x) :=
  ⟨own_same s.one fun j hj => heap_set _ _ (fun e => by have := own_base s.one j hj; simp only at e; omega), own_same s.two fun j hj => heap_set _ _ (fun e => by have := own_base s.two j hj; simp only at e; omega), s.ne⟩
theorem TwoH.cell (s : TwoH v l y A c B d wr) {b : Nat} (hb : b < v.heap.size) (i : Nat) (x : Value) : TwoH v l y A c B d (wr.setCell ⟨b, i, none⟩ x) :=
  ⟨own_same s.one fun j hj => heap_set _ _ (fun e => by have := own_base s.one j hj; simp only at e; omega), own_same s.two fun j hj => heap_set _ _ (fun e => by have := own_base s.two j hj; simp only at e; omega), s.ne⟩
end
theorem p3_in {w : World} {g : Nat} {a0 a1 a2 : Value} (h : Blok w g 82 #[a0, a1, a2]) : g < w.heap.size ∧ w.cell? ⟨g, 0, none⟩ = some a0 ∧ w.cell? ⟨g, 1, none⟩ = some a1 ∧ w.cell? ⟨g, 2, none⟩ = some a2 ∧ w.frozen? ⟨g, 0, none⟩ = false ∧ w.frozen? ⟨g, 1, none⟩ = false ∧ w.frozen? ⟨g, 2, none⟩ = false :=
  ⟨h.lt, h.cell 0, h.cell 1, h.cell 2, h.thaw 0, h.thaw 1, h.thaw 2⟩
/-- A pipe while its filters are gone through. -/
structure PipA (u v : World) (bt bp : Nat) (t : Int) (vs : Value) (l : List (Int × Int)) (F : Option Addr) (f : Nat) (N : Option Addr) (k : Nat) (w : World) : Prop where
  grew : Grew u w
  pipe : Blok w bp 82 #[vs, .slice F l.length f, .slice N l.length k]
  tab : Blok w bt 3 #[.int .i64 t]
  two : Two v l F f N k w
  low : u.heap.size ≤ bp ∧ bp < v.heap.size ∧ bt < v.heap.size ∧ bt ≠ bp ∧ u.heap.size ≤ v.heap.size
  size : v.heap.size ≤ w.heap.size
structure PipH (u v : World) (bt bp : Nat) (t : Int) (vs : Value) (l : List (Int × Int)) (y : Int) (F : Option Addr) (f : Nat) (N : Option Addr) (k : Nat) (w : World) : Prop where
  grew : Grew u w
  pipe : Blok w bp 82 #[vs, .slice F (l.length + 1) f, .slice N l.length k]
  tab : Blok w bt 3 #[.int .i64 t]
  two : TwoH v l y F f N k w
  low : u.heap.size ≤ bp ∧ bp < v.heap.size ∧ bt < v.heap.size ∧ bt ≠ bp ∧ u.heap.size ≤ v.heap.size
  size : v.heap.size ≤ w.heap.size
section
variable {u v w w' : World} {bt bp : Nat} {t y z : Int} {vs : Value} {l : List (Int × Int)} {F N F' N' : Option Addr} {f k f' k' : Nat}
theorem PipA.on (s : PipA u v bt bp t vs l F f N k w) (g : Grew w w') : PipA u v bt bp t vs l F f N k w' :=
  ⟨s.grew.trans g, s.pipe.grew g, s.tab.grew g, s.two.on g, s.low, Nat.le_trans s.size g.size⟩
theorem PipH.on (s : PipH u v bt bp t vs l y F f N k w) (g : Grew w w') : PipH u v bt bp t vs l y F f N k w' :=
  ⟨s.grew.trans g, s.pipe.grew g, s.tab.grew g, s.two.on g, s.low, Nat.le_trans s.size g.size⟩
theorem PipA.half (s : PipA u v bt bp t vs l F f N k w) (ho : w'.ownsRow v.heap.size 3 1 (.slice F' (l.length + 1) f') (l.length + 1) (iV (lcP l) ++ [.int .i64 y])) (hgb : w.grownBy w' (Value.slice F l.length f).ownBlock)
    (hor : (Value.slice F' (l.length + 1) f').ownBlock = (Value.slice F l.length f).ownBlock ∨ (Value.slice F' (l.length + 1) f').ownBlock = some w.heap.size) : PipH u v bt bp t vs l y F' f' N k (w'.setCell ⟨bp, 1, none⟩ (.slice F' (l.length + 1) f')) := by
  obtain ⟨l1, l2, l3, l4, l5⟩ := s.low
  have hb := own_base s.two.one
  refine ⟨(s.grew.grown hgb fun i hi => by have := hb i hi; omega).setCell l1 _, ?_, ?_, (s.two.half ho hgb hor).cell l2 1 _, s.low, by rw [World.size_setCell]; exact Nat.le_trans s.size hgb.size⟩
  · have := (s.pipe.grown hgb fun e => by have := hb bp e; omega).set 1 (.slice F' (l.length + 1) f')
    simpa using this
  · exact (s.tab.grown hgb fun e => by have := hb bt e; omega).far l4 _
theorem PipH.whole (s : PipH u v bt bp t vs l y F f N k w) (ho : w'.ownsRow v.heap.size 3 1 (.slice N' (l.length + 1) k') (l.length + 1) (iV (rcP l) ++ [.int .i64 z])) (hgb : w.grownBy w' (Value.slice N l.length k).ownBlock)
    (hor : (Value.slice N' (l.length + 1) k').ownBlock = (Value.slice N l.length k).ownBlock ∨ (Value.slice N' (l.length + 1) k').ownBlock = some w.heap.size) : PipA u v bt bp t vs (l ++ [(y, z)]) F f N' k' (w'.setCell ⟨bp, 2, none⟩ (.slice N' (l.length + 1) k')) := by
  obtain ⟨l1, l2, l3, l4, l5⟩ := s.low
  have hb := own_base s.two.two
  have e3 : (l ++ [(y, z)]).length = l.length + 1 := by simp
  refine ⟨(s.grew.grown hgb fun i hi => by have := hb i hi; omega).setCell l1 _, ?_, ?_, (s.two.whole ho hgb hor).cell l2 2 _, s.low, by rw [World.size_setCell]; exact Nat.le_trans s.size hgb.size⟩
  · have := (s.pipe.grown hgb fun e => by have := hb bp e; omega).set 2 (.slice N' (l.length + 1) k')
    rw [e3]
    simpa using this
  · exact (s.tab.grown hgb fun e => by have := hb bt e; omega).far l4 _
end
/-- A pipe whose needs are known, while they are put in order. -/
structure PipD (u v : World) (bp : Nat) (vs vf : Value) (nl : List Int) (m : Nat) (N : Option Addr) (k : Nat) (w : World) : Prop where
  grew : Grew u w
  pipe : Blok w bp 82 #[vs, vf, .slice N m k]
  own : w.ownsRow v.heap.size 3 1 (.slice N m k) m (iV nl)
  len : m = nl.length
  low : u.heap.size ≤ bp ∧ bp < v.heap.size ∧ u.heap.size ≤ v.heap.size
section
variable {u v w w' : World} {bp m m' : Nat} {vs vf : Value} {nl nl' : List Int} {N N' : Option Addr} {k k' : Nat}
theorem PipD.on (s : PipD u v bp vs vf nl m N k w) (g : Grew w w') : PipD u v bp vs vf nl m N k w' :=
  ⟨s.grew.trans g, s.pipe.grew g, own_grewE s.own g, s.len, s.low⟩
/-- Turned in place. -/
theorem PipD.turn (s : PipD u v bp vs vf nl m N k w) (ho : w'.ownsRow v.heap.size 3 1 (.slice N m k) m (iV nl')) (hl : m = nl'.length) (hgb : w.grownBy w' (Value.slice N m k).ownBlock) : PipD u v bp vs vf nl' m N k w' := by
  have hb := own_base s.own
  exact ⟨s.grew.grown hgb fun i hi => by have := hb i hi; have := s.low; omega, s.pipe.grown hgb fun e => by have := hb bp e; have := s.low; omega, ho, hl, s.low⟩
theorem PipD.less (s : PipD u v bp vs vf nl m N k w) (ho : w'.ownsRow v.heap.size 3 1 (.slice N m' k) m' (iV nl')) (hl : m' = nl'.length) (hgb : w.grownBy w' (Value.slice N m k).ownBlock) : PipD u v bp vs vf nl' m' N k (w'.setCell ⟨bp, 2, none⟩ (.slice N m' k)) := by
  have hb := own_base s.own
  obtain ⟨l1, l2, l3⟩ := s.low
  refine ⟨(s.grew.grown hgb fun i hi => by have := hb i hi; omega).setCell l1 _, ?_, ownsRow_setCell_below ho l2 _, hl, s.low⟩
  have := (s.pipe.grown hgb fun e => by have := hb bp e; omega).set 2 (.slice N m' k)
  simpa using this
end
theorem PipA.needs {u v w : World} {bt bp : Nat} {t : Int} {vs : Value} {l : List (Int × Int)} {F N : Option Addr} {f k : Nat} (s : PipA u v bt bp t vs l F f N k w) : PipD u v bp vs (.slice F l.length f) (rcP l) l.length N k w :=
  ⟨s.grew, s.pipe, s.two.two, (rcP_len l).symm, s.low.1, s.low.2.1, s.low.2.2.2.2⟩
/-- Other needs, of one's own, are put there. -/
theorem PipA.other {u v w w' w2 : World} {bt bp : Nat} {t : Int} {vs : Value} {l : List (Int × Int)} {F N N' : Option Addr} {f k k' m : Nat} {nl : List Int} (s : PipA u v bt bp t vs l F f N k w) (g : Grew w w') (ho : w2.ownsRow w.heap.size 3 1 (.slice N' m k') m (iV nl)) (hl : m = nl.length) {row : Option Nat} (hgb : w'.grownBy w2 row) (hr : ∀ i, row = some i → w.heap.size ≤ i) :
    PipD u v bp vs (.slice F l.length f) nl m N' k' (w2.setCell ⟨bp, 2, none⟩ (.slice N' m k')) := by
  obtain ⟨l1, l2, l3, l4, l5⟩ := s.low
  have hs := s.size
  refine ⟨((s.grew.trans g).grown hgb fun i hi => by have := hr i hi; omega).setCell l1 _, ?_, ownsRow_setCell_below (own_le ho hs) l2 _, hl, l1, l2, l5⟩
  have := ((s.pipe.grew g).grown hgb fun e => by have := hr bp e; omega).set 2 (.slice N' m k')
  simpa using this
/-- Pipes that are gathered. -/
structure GatP (u : World) (nd : List (List Int)) (A : Option Addr) (c : Nat) (css : List (List Value)) (wr : World) : Prop where
  grew : Grew u wr
  own : wr.ownsRow u.heap.size 82 3 (.slice A nd.length c) nd.length css.flatten
  rows : ListR (PipR (TRow u.heap.size wr)) 3 nd css
theorem neIP : 3 ≠ 82 := by decide
theorem GatP.nil (u : World) : GatP u [] none 0 [] u := ⟨Grew.refl u, own_none _ _ _ _, ListR.nil⟩
theorem PipR.impI {R R' : Rw} (H : ∀ A xs, R 3 A xs → R' 3 A xs) {l : List Int} {cs : List Value} (h : PipR R l cs) : PipR R' l cs := by
  obtain ⟨s, t, B, k, e, h1⟩ := h
  exact ⟨s, t, B, k, e, H _ _ h1⟩
theorem GatP.on {u wr w' : World} {nd : List (List Int)} {A : Option Addr} {c : Nat} {css : List (List Value)} (h : GatP u nd A c css wr) (g : Grew wr w') : GatP u nd A c css w' :=
  ⟨h.grew.trans g, own_grewE h.own g, h.rows.map fun _ _ hx => hx.impI fun _ _ hm => hm.grew g⟩
theorem GatP.done {u wr : World} {nd : List (List Int)} {A : Option Addr} {c : Nat} {css : List (List Value)} (h : GatP u nd A c css wr) : PipsR wr A nd := by
  obtain ⟨A', c', e, hr⟩ := own_row h.own
  injection e with e _ _
  subst e
  exact ⟨css, h.rows.map fun x cs hx => hx.impI fun B xs hm => hm.plain, hr⟩
theorem GatP.snoc {u wr w' : World} {nd : List (List Int)} {A A' : Option Addr} {c c' : Nat} {css : List (List Value)} {x : List Int} {cs : List Value} (h : GatP u nd A c css wr) (hx : PipR (TRow u.heap.size wr) x cs)
    (ho : w'.ownsRow u.heap.size 82 3 (.slice A' (nd.length + 1) c') (nd.length + 1) (css.flatten ++ cs)) (hb : wr.grownBy w' (Value.slice A nd.length c).ownBlock) : GatP u (nd ++ [x]) A' c' (css ++ [cs]) w' := by
  have H : ∀ B xs, TRow u.heap.size wr 3 B xs → TRow u.heap.size w' 3 B xs := fun B xs hm => hm.grown h.own neIP hb
  have hlen : cs.length = 3 := by obtain ⟨_, _, _, _, rfl, _⟩ := hx; rfl
  refine ⟨h.grew.grown hb fun k hk => own_base h.own k hk, ?_, (h.rows.map fun y ds hy => hy.impI H).snoc (hx.impI H) hlen⟩
  rw [List.length_append, List.length_singleton, List.flatten_append]
  simpa using ho
theorem infoPi : (Try.prog.info? 82).map (fun i => (i.zero, i.size, i.bytes)) = some (some (.agg #[.slice none 0 0, .slice none 0 0, .slice none 0 0]), 3, 72) := by kernel_rfl
end Go.Proofs.Ytoaciliojdaoaaa

/- Layer 32: a plan's pipes, by the program, as far as their needs go. Condition: conditions that lie in memory that is there; no more than a thousand tables and filters. -/
namespace Go.Proofs.Ytoaciliojdaoaaa
open Go.RowKit
attribute [local go_sem] more_cell more_frozen more_more more_setCell more_of_drew more_of_drewN lt_more le_more past_cell past_cell2 past_frozen past_frozen2 past_setCell past_setCell2 mid_cell mid_frozen mid_setCell
attribute [local go_sem ↓] Go.wp_at_zero Go.wp_at_succ

theorem pl_in {w : World} {g : Nat} {a0 a1 a2 a3 a4 a5 : Value} (h : Blok w g 51 #[a0, a1, a2, a3, a4, a5]) : g < w.heap.size ∧ w.cell? ⟨g, 0, none⟩ = some a0 ∧ w.cell? ⟨g, 1, none⟩ = some a1 ∧ w.cell? ⟨g, 2, none⟩ = some a2 ∧ w.cell? ⟨g, 3, none⟩ = some a3 ∧ w.cell? ⟨g, 4, none⟩ = some a4 ∧ w.cell? ⟨g, 5, none⟩ = some a5 :=
  ⟨h.lt, h.cell 0, h.cell 1, h.cell 2, h.cell 3, h.cell 4, h.cell 5⟩
def PpO (u : World) (L : List Fv) (order : List Int) (cnt : Nat) (v i : Value) (wr : World) : Prop := ∃ (t : Nat) (A : Option Addr) (c : Nat) (css : List (List Value)), t ≤ cnt ∧ i = .int .i64 t ∧ v = .slice A t c ∧ GatP u (needsA L order cnt t) A c css wr
def PpI (u v : World) (bt bp : Nat) (t : Int) (vs : Value) (L : List Fv) (i : Value) (wr : World) : Prop := ∃ (q : Nat) (F : Option Addr) (f : Nat) (N : Option Addr) (k : Nat), q ≤ L.length ∧ i = .int .i64 q ∧ PipA u v bt bp t vs (filtP L t q) F f N k wr
/-- Pipes that come back. -/
def PipF (w : World) (nd : List (List Int)) (e : Ending) (w' : World) : Prop := ∃ A k css, e = .returned (.slice A nd.length k) ∧ Grew w w' ∧ w'.ownsRow w.heap.size 82 3 (.slice A nd.length k) nd.length css.flatten ∧ ListR (PipR (TRow w.heap.size w')) 3 nd css
/-- Some slice, cloned. -/
def CloF (w : World) (e : Ending) (w' : World) : Prop := ∃ A m k, e = .returned (.slice A m k) ∧ Grew w w'
set_option maxHeartbeats 16000000 in
set_option maxRecDepth 100000 in
theorem ppipes_any (core : Int) (sc : List (List Ex)) (l : List La) (L : List Fv) (order : List Int) (S : Option Addr) (ks : Nat) (Fa : Option Addr) (fk : Nat) (v2 v3 v4 v5 : Value) (A : Option Addr) (k : Nat) (B : Option Addr) (ne j : Nat) (C : Option Addr) (p c : Nat) (D : Option Addr) (d : Nat) (E : Option Addr) (qn en : Nat) (w : World)
    (hM : sc.length + l.length ≤ 1000) (hL : L.length ≤ 1000) (hsc : ∀ x ∈ sc, x.length ≤ 1000000) (hls : ∀ x ∈ l, x.scan.length ≤ 1000000)
    (rA : XllR (PRow w) A sc) (rD : LasR (PRow w) D l) (rF : FvsR (PRow w) Fa L) (rS : Row w S (iV order)) :
    Calls Try.prog 45 #[.agg (nqC core A sc.length k B ne j C p c D l.length d E qn en), .agg #[.slice S order.length ks, .slice Fa L.length fk, v2, v3, v4, v5]] w (PipF w (needsA L order (sc.length + l.length) (sc.length + l.length))) := by
  have HScan : Hid (∀ (t : Nat) (h : t < sc.length) W, Grew w W → ∃ b o X x, A = some ⟨b, o, none⟩ ∧ b < W.heap.size ∧ W.cell? ⟨b, o + t, none⟩ = some (.slice X sc[t].length x) ∧ ∀ W', Grew W W' → Calls Try.prog 38 #[.slice X sc[t].length x] W' (CloF W')) := Lib.hid fun t h W hW => by
    obtain ⟨b, o, X, x, e, h1, h2, h3⟩ := xllR_at (rA.grew hW) h
    exact ⟨b, o, X, x, e, h1, h2, fun W' hW' => (clone_ex sc[t] X x (hsc _ (List.getElem_mem h)) W W' hW' h3).mono fun e w' ⟨A2, k2, q1, q2, _⟩ => ⟨A2, _, k2, q1, q2⟩⟩
  have HLate : Hid (∀ (i : Nat) (h : i < l.length) W, Grew w W → ∃ b o X x, D = some ⟨b, o, none⟩ ∧ b < W.heap.size ∧ W.cell? ⟨b, o + i * 5 + 3, none⟩ = some (.slice X l[i].scan.length x) ∧ ∀ W', Grew W W' → Calls Try.prog 38 #[.slice X l[i].scan.length x] W' (CloF W')) := Lib.hid fun t h W hW => by
    obtain ⟨b, o, _, _, X, x, _, _, e, h1, _, _, _, h2, _, _, h3, _⟩ := lasR_at (rD.grew hW) h
    exact ⟨b, o, X, x, e, h1, h2, fun W' hW' => (clone_ex l[t].scan X x (hls _ (List.getElem_mem h)) W W' hW' h3).mono fun e w' ⟨A2, k2, q1, q2, _⟩ => ⟨A2, _, k2, q1, q2⟩⟩
  have HDr : Hid (∀ W, Grew w W → Gives Try.prog 17 #[.agg #[.slice S order.length ks, .slice Fa L.length fk, v2, v3, v4, v5]] W (.int .i64 (order.head?.getD (-1)))) := Lib.hid fun W hW => driver_any order S ks _ v2 v3 v4 v5 W (rS.grew hW)
  have RF := Lib.hid rF
  clear rA rD rF rS hsc hls
  obtain ⟨ol, hol⟩ : ∃ ol, order.length = ol := ⟨_, rfl⟩
  rw [hol] at HDr ⊢
  clear hol
  obtain ⟨cnt, hcnt⟩ : ∃ cnt, sc.length + l.length = cnt := ⟨_, rfl⟩
  rw [hcnt]
  have HRi : Hid (∀ W, Calls Try.prog 36 #[.int .i64 cnt] W (OwnI W (risI cnt))) := Lib.hid fun W => lrising_any _ (by omega) W
  have hsum : IntKind.i64.wrap ((sc.length : Int) + (l.length : Int)) = (cnt : Int) := by rw [IntWalk.i64_in _ (by omega)]; omega
  have HCn := Lib.hid hcnt
  have hcb : cnt ≤ 1000 := by omega
  obtain ⟨W0, hW0⟩ : ∃ W0, W0 = (w.alloc (.cells #[.int .i64 core, .slice A sc.length k, .slice B ne j, .slice C p c, .slice D l.length d, .slice E qn en] 37)).alloc (.cells #[.slice S ol ks, .slice Fa L.length fk, v2, v3, v4, v5] 51) := ⟨_, rfl⟩
  have HG0 : Hid (Grew w W0) := Lib.hid (by rw [hW0]; exact ((Grew.refl w).alloc _).alloc _)
  have HX0 : Hid (Blok W0 w.heap.size 37 #[.int .i64 core, .slice A sc.length k, .slice B ne j, .slice C p c, .slice D l.length d, .slice E qn en]) := Lib.hid (by rw [hW0]; exact (Blok.new _ _ _ _ rfl).alloc _)
  have HP0 : Hid (Blok W0 (w.heap.size + 1) 51 #[.slice S ol ks, .slice Fa L.length fk, v2, v3, v4, v5]) := Lib.hid (by rw [hW0]; exact Blok.new _ _ _ _ (by simp))
  unfold nqC at *
  clear hcnt
  go_enter Try.func45, Try.ntmps45
  go_upto_region 1 with fail
  rw [← hW0]
  clear hW0
  generalize w.heap.size + 1 = bpl at *
  generalize w.heap.size = bx at *
  obtain ⟨xl, x0, x1, x2, x3, x4, x5⟩ := nm_in HX0.out
  go_wp2_with fail
  clear xl x0 x1 x2 x3 x4 x5
  go_loopw [5, 19] (fun v i wr => PpO W0 L order cnt v i wr) (fun _ i _ => cnt - (intOf i).toNat)
  case atStart => exact ⟨0, none, 0, [], Nat.zero_le _, rfl, rfl, GatP.nil W0⟩
  case round =>
    obtain ⟨t, A1, c1, css, ht, rfl, rfl, hG⟩ := hrel
    have HG := Lib.hid hG
    clear hG
    by_cases hlt : t < cnt
    · -- the blocks of this round
      obtain ⟨W1, hW1⟩ : ∃ W1, W1 = (wr.alloc (.cells #[.int .i64 t] 3)).alloc (.cells #[.slice none 0 0, .slice none 0 0, .slice none 0 0] 82) := ⟨_, rfl⟩
      have HG1 : Hid (Grew wr W1) := Lib.hid (by rw [hW1]; exact ((Grew.refl wr).alloc _).alloc _)
      have HT1 : Hid (Blok W1 wr.heap.size 3 #[.int .i64 t]) := Lib.hid (by rw [hW1]; exact (Blok.new _ _ _ _ rfl).alloc _)
      have HP1 : Hid (Blok W1 (wr.heap.size + 1) 82 #[.slice none 0 0, .slice none 0 0, .slice none 0 0]) := Lib.hid (by rw [hW1]; exact Blok.new _ _ _ _ (by simp))
      go_upto_region 7 with fail
      rw [← hW1]
      clear hW1
      have HLo : Hid (wr.heap.size ≤ wr.heap.size + 1 ∧ wr.heap.size ≠ wr.heap.size + 1) := Lib.hid (by omega)
      obtain ⟨bt, hbt⟩ : ∃ b, wr.heap.size = b := ⟨_, rfl⟩
      have HBt := Lib.hid hbt
      rw [hbt] at HT1 HP1 HLo ⊢
      clear hbt
      generalize bt + 1 = bp at *
      obtain ⟨xl, x0, x1, x2, x3, x4, x5⟩ := nm_in (HX0.out.grew (HG.out.grew.trans HG1.out))
      have q0 := HT1.out.cell 0
      have q1 := HT1.out.lt
      simp at q0
      obtain ⟨pl, p0, p1, p2, f0, f1, f2⟩ := p3_in HP1.out
      have HNd : Hid (needsA L order cnt (t + 1) = needsA L order cnt t ++ [needS L order cnt t]) := Lib.hid (needsA_succ L order cnt t)
      by_cases htn : t < sc.length
      · have e1 : decide ((t : Int) < (sc.length : Int)) = true := decide_eq_true (by omega)
        obtain ⟨b, o, X, xx, rfl, hb, hc, hcl⟩ := HScan.out t htn W1 ((HG0.out.trans HG.out.grew).trans HG1.out)
        have HCl := Lib.hid hcl
        clear hcl
        generalize sc[t].length = sl at *
        go_upto_region 10 with (go_at_call 38; (with_reducible refine (HCl.out _ (Grew.refl _)).mono ?_); rintro e2 w2 ⟨X2, m2, k2, rfl, hg2⟩; have HG2 := Lib.hid hg2; have HP2 := Lib.hid (HP1.out.grew hg2); clear hg2; clear f0 f1 f2 pl p0 p1 p2; obtain ⟨pl, p0, p1, p2, f0, f1, f2⟩ := p3_in HP2.out)
        clear f0 f1 f2 pl p0 p1 p2 xl x0 x1 x2 x3 x4 x5 q0 q1 hb hc
        have HA2 : Hid (PipA wr (w2.setCell ⟨bp, 0, none⟩ (.slice X2 m2 k2)) bt bp t (.slice X2 m2 k2) [] none 0 none 0 (w2.setCell ⟨bp, 0, none⟩ (.slice X2 m2 k2))) := Lib.hid (by
          have hl := HP2.out.lt
          have ht := (HT1.out.grew HG2.out).lt
          refine ⟨(HG1.out.trans HG2.out).setCell (by rw [HBt.out]; exact HLo.out.1) _, ?_, (HT1.out.grew HG2.out).far HLo.out.2 _, Two.nil _, ⟨by rw [HBt.out]; exact HLo.out.1, by rw [World.size_setCell]; exact hl, by rw [World.size_setCell]; exact ht, HLo.out.2, by rw [World.size_setCell]; exact (HG1.out.trans HG2.out).size⟩, Nat.le_refl _⟩
          have := HP2.out.set 0 (.slice X2 m2 k2)
          simpa using this)
        clear HCl HP2 HG2
        generalize (w2.setCell ⟨bp, 0, none⟩ (.slice X2 m2 k2)) = W2 at *
        obtain ⟨yl, y0, y1, y2, y3, y4, y5⟩ := pl_in (HP0.out.grew (HG.out.grew.trans HA2.out.grew))
        go_wp2_with fail
        clear yl y0 y1 y2 y3 y4 y5
        obtain ⟨wo, rfl⟩ : ∃ wo : World, wo = wr := ⟨_, rfl⟩
        go_loopw [50] (fun i wx => PpI wo W2 bt bp t (.slice X2 m2 k2) L i wx) (fun i _ => L.length - (intOf i).toNat)
        case atStart => exact ⟨0, none, 0, none, 0, Nat.zero_le _, rfl, HA2.out⟩
        case round =>
          obtain ⟨q, F1, f1, N1, k1, hq, rfl, hA⟩ := hrel
          have HA := Lib.hid hA
          clear hA
          by_cases hql : q < L.length
          · obtain ⟨bf, off, Xa, xa, Xb, xb, rfl, hbf, g0, g1, g2, g3, _, _⟩ := fvsR_at (RF.out.grew ((HG0.out.trans HG.out.grew).trans HA.out.grew)) hql
            have HPu : Hid (L[q].t = t → filtP L t (q + 1) = filtP L t q ++ [((q : Int), L[q].f)]) := Lib.hid fun h => filtP_put hql h
            have HSk : Hid (¬ L[q].t = t → filtP L t (q + 1) = filtP L t q) := Lib.hid fun h => filtP_skip hql h
            have hfl := filtP_len L t q
            generalize filtP L t q = M at *
            generalize L[q] = y at *
            go_upto_region 13 with fail
            have HA4 : Hid (PipA wo W2 bt bp t (.slice X2 m2 k2) M F1 f1 N1 k1 (wr.alloc (.cells #[.int .i64 y.f, .slice Xa y.a.length xa, .int .i64 y.t, .slice Xb y.b.length xb] 43))) := Lib.hid (HA.out.on ((Grew.refl wr).alloc _))
            have HFb : Hid (Blok (wr.alloc (.cells #[.int .i64 y.f, .slice Xa y.a.length xa, .int .i64 y.t, .slice Xb y.b.length xb] 43)) wr.heap.size 43 #[.int .i64 y.f, .slice Xa y.a.length xa, .int .i64 y.t, .slice Xb y.b.length xb]) := Lib.hid (Blok.new _ _ _ _ rfl)
            have HFr : Hid ((∀ i, (Value.slice F1 M.length f1).ownBlock = some i → i ≠ wr.heap.size) ∧ wr.heap.size ≠ bp) := Lib.hid ⟨fun i hi => by have := own_lt HA.out.two.one i hi; omega, by have := HA.out.low.2.1; have := HA.out.size; omega⟩
            clear hbf g0 g1 g2 g3 HA
            generalize (wr.alloc (.cells #[.int .i64 y.f, .slice Xa y.a.length xa, .int .i64 y.t, .slice Xb y.b.length xb] 43)) = W4 at *
            generalize wr.heap.size = bfl at *
            obtain ⟨fl, f40, f41, f42, f43⟩ := f4_in HFb.out
            have q0 := HA4.out.tab.cell 0
            have q1 := HA4.out.tab.lt
            simp at q0
            by_cases hyt : y.t = t
            · have e2 : (y.t == (t : Int)) = true := by simpa using hyt
              have HLx := Lib.hid (HPu.out hyt)
              clear HPu HSk hyt
              go_upto_region 14 with fail
              obtain ⟨pl, p0, p1, p2, f0, f1', f2⟩ := p3_in HA4.out.pipe
              go_upto_region 15 with (at_builtin; refine wpList_appC rfl _ _ 30 3 1 rfl W2.heap.size (.int .i64 0) 8 Try.underlying30 infoI rfl (by decide) (by decide) _ M.length (iV (lcP M)) rfl (own_alloc HA4.out.two.one _) _ 1 1 [.int .i64 q] rfl rfl (row_one _ _ _ _ rfl) (by simp [Value.oneCell']) (by omega) (by rw [World.size_alloc]; have := HA4.out.size; omega) ?_; intro A5 c5 w5 ho5 hg5 hor5; have HO5 := Lib.hid ho5; have HQ5 := Lib.hid hg5; have HR5 := Lib.hid hor5; clear ho5 hg5 hor5; have HP5 := Lib.hid ((HA4.out.pipe.alloc (.cells #[.int .i64 q] 3)).grown HQ5.out fun e => (by have h1 := own_base HA4.out.two.one bp e; have h2 := HA4.out.low.2.1; omega)); clear pl p0 p1 p2 f0 f1' f2; obtain ⟨pl, p0, p1, p2, f0, f1', f2⟩ := p3_in HP5.out)
              have HH5 : Hid (PipH wo W2 bt bp t (.slice X2 m2 k2) M q A5 c5 N1 k1 (w5.setCell ⟨bp, 1, none⟩ (.slice A5 (M.length + 1) c5))) := Lib.hid ((HA4.out.on ((Grew.refl _).alloc _)).half HO5.out HQ5.out HR5.out)
              have HF6 : Hid (Blok (w5.setCell ⟨bp, 1, none⟩ (.slice A5 (M.length + 1) c5)) bfl 43 #[.int .i64 y.f, .slice Xa y.a.length xa, .int .i64 y.t, .slice Xb y.b.length xb]) := Lib.hid (((HFb.out.alloc _).grown HQ5.out fun e => HFr.out.1 _ e rfl).far HFr.out.2 _)
              clear HO5 HQ5 HR5 HP5 HFb HA4 pl p0 p1 p2 f0 f1' f2 fl f40 f41 f42 f43 q0 q1
              generalize (w5.setCell ⟨bp, 1, none⟩ (.slice A5 (M.length + 1) c5)) = w6 at *
              obtain ⟨pl, p0, p1, p2, f0, f1', f2⟩ := p3_in HH5.out.pipe
              obtain ⟨fl, f40, f41, f42, f43⟩ := f4_in HF6.out
              go_wp2_with (at_builtin; refine wpList_appC rfl _ _ 30 3 1 rfl W2.heap.size (.int .i64 0) 8 Try.underlying30 infoI rfl (by decide) (by decide) _ M.length (iV (rcP M)) rfl (own_alloc HH5.out.two.two _) _ 1 1 [.int .i64 y.f] rfl rfl (row_one _ _ _ _ rfl) (by simp [Value.oneCell']) (by omega) (by rw [World.size_alloc]; have := HH5.out.size; omega) ?_; intro A7 c7 w7 ho7 hg7 hor7; have HO7 := Lib.hid ho7; have HQ7 := Lib.hid hg7; have HR7 := Lib.hid hor7; clear ho7 hg7 hor7; have HP7 := Lib.hid ((HH5.out.pipe.alloc (.cells #[.int .i64 y.f] 3)).grown HQ7.out fun e => (by have h1 := own_base HH5.out.two.two bp e; have h2 := HH5.out.low.2.1; omega)); clear pl p0 p1 p2 f0 f1' f2; obtain ⟨pl, p0, p1, p2, f0, f1', f2⟩ := p3_in HP7.out)
              have HA8 := Lib.hid ((HH5.out.on ((Grew.refl _).alloc _)).whole HO7.out HQ7.out HR7.out)
              exact ⟨⟨q + 1, A5, c5, A7, c7, by omega, by go_num, by rw [HLx.out]; exact HA8.out⟩, by simp only [intOf]; omega⟩
            · have e2 : (y.t == (t : Int)) = false := by simpa using hyt
              have HLx := Lib.hid (HSk.out hyt)
              clear HPu HSk hyt
              go_wp2_with fail
              exact ⟨⟨q + 1, F1, f1, N1, k1, by omega, by go_num, by rw [HLx.out]; exact HA4.out⟩, by simp only [intOf]; omega⟩
          · obtain rfl : q = L.length := by omega
            have HNl : Hid (order.head? = some (t : Int) → needL L order cnt t = (risI cnt).filter fun i => !decide (i = (t : Int))) := Lib.hid fun h => if_pos h
            have HNm : Hid (¬ order.head? = some (t : Int) → needL L order cnt t = rcP (filtP L t L.length)) := Lib.hid fun h => if_neg h
            have HNz : Hid ((needL L order cnt t).length ≤ 1000000) := Lib.hid (by have := needL_len L order cnt t; omega)
            have HNs : Hid (needS L order cnt t = Lib.compact (sortI (needL L order cnt t))) := Lib.hid rfl
            have HDr1 := Lib.hid (fun W (hW : Grew wo W) => HDr.out W ((HG0.out.trans HG.out.grew).trans hW))
            have hdd : (order.head? = some (t : Int) ∧ order.head?.getD (-1) = (t : Int)) ∨ (¬ order.head? = some (t : Int) ∧ ¬ order.head?.getD (-1) = (t : Int)) := by
              cases ho : order.head? with
              | none => exact Or.inr ⟨by simp, by simp⟩
              | some y =>
                by_cases hy : y = (t : Int)
                · exact Or.inl ⟨by rw [hy], by simpa using hy⟩
                · exact Or.inr ⟨by simpa using hy, by simpa using hy⟩
            generalize filtP L t L.length = M at *
            generalize order.head?.getD (-1) = dr at *
            have HPw := Lib.hid (fun W (hW : Grew wo W) => HP0.out.grew (HG.out.grew.trans hW))
            go_upto_region 17 with fail
            have hS0 : Grew wr wr.drew := (Grew.refl wr).drew
            refine wp_region_S (fun W => Grew wr W) (by kernel_rfl) ?_
            refine held_take 0 (v := ?_) rfl (by kernel_rfl) (by kernel_rfl) (by kernel_rfl) (fun _ _ _ h => h) (by rfl) ?_ hS0 ?_
            rotate_left
            · (intro W hW; have q0 := (HA.out.tab.grew hW).cell 0; have q1 := (HA.out.tab.grew hW).lt; simp at q0; obtain ⟨yl, y0, y1, y2, y3, y4, y5⟩ := pl_in (HPw.out _ (HA.out.grew.trans hW)); go_simp; with_reducible rfl)
            refine held_take 1 (v := ?_) rfl (by kernel_rfl) (by kernel_rfl) (by kernel_rfl) (fun _ _ _ h => h) (by rfl) ?_ hS0 ?_
            rotate_left
            · (intro W hW; have q0 := (HA.out.tab.grew hW).cell 0; have q1 := (HA.out.tab.grew hW).lt; simp at q0; obtain ⟨yl, y0, y1, y2, y3, y4, y5⟩ := pl_in (HPw.out _ (HA.out.grew.trans hW)); go_simp; with_reducible rfl)
            refine held_norm (a' := ?_) ?_ ?_
            rotate_left
            · (go_simp; with_reducible rfl)
            refine held_call 2 (by kernel_rfl) rfl (by rfl) (fun K hK => ?_)
            go_simp
            go_wp2_with ((go_at_call 17; (with_reducible refine (HDr1.out _ (HA.out.grew.trans hS0)).grows.mono ?_); rintro e3 w3 ⟨rfl, hg3⟩; have hS3 := hS0.trans hg3))
            refine hK.out _ _ hS3 ?_
            clear hK K
            refine held_take 3 (v := ?_) rfl (by kernel_rfl) (by kernel_rfl) (by kernel_rfl) (fun _ _ _ h => h) (by rfl) ?_ hS3 ?_
            rotate_left
            · (intro W hW; go_simp; with_reducible rfl)
            refine held_norm (a' := ?_) ?_ ?_
            rotate_left
            · (go_simp; with_reducible rfl)
            refine held_done (by kernel_rfl) ?_
            have HA3 := Lib.hid (HA.out.on hS3)
            clear hS3 hg3 hS0 HA HDr HDr1 RF
            rcases hdd with ⟨hd1, hd2⟩ | ⟨hd1, hd2⟩
            · have e2 : ((t : Int) == dr) = true := by rw [hd2]; simp
              have hnl := HNl.out hd1
              have HNc := Lib.hid hnl
              clear hd1 hd2 hnl HNl HNm
              have q0 := HA3.out.tab.cell 0
              have q1 := HA3.out.tab.lt
              simp at q0
              have HRl : Hid ((risI cnt).length ≤ 1000000) := Lib.hid (by rw [risI_len]; omega)
              have HDe : Hid (∀ A c0 base W, Blok W bt 3 #[.int .i64 t] → bt < base → W.ownsRow base 3 1 (.slice A (risI cnt).length c0) (risI cnt).length (iV (risI cnt)) → Calls Try.prog 66 #[.slice A (risI cnt).length c0, .func (.func 67) #[] #[.pointer (some ⟨bt, 0, none⟩)]] W fun en w' => en = .returned (.slice A (needL L order cnt t).length c0) ∧ w'.ownsRow base 3 1 (.slice A (needL L order cnt t).length c0) (needL L order cnt t).length (iV (needL L order cnt t)) ∧ W.grownBy w' (Value.slice A (risI cnt).length c0).ownBlock) := Lib.hid fun A c0 base W h1 h2 h3 => by
                rw [HNc.out]
                exact pdel_own t (risI cnt) HRl.out A c0 base bt W h1 h2 h3
              clear HNc
              generalize needL L order cnt t = nl at *
              generalize risI cnt = rl at *
              go_upto_region 19 with (first | (go_at_call 36; (with_reducible refine (HRi.out _).mono ?_); rintro e4 w4 ⟨A4, k4, rfl, hg4, ho4⟩; have HG4 := Lib.hid hg4; have HO4 := Lib.hid ho4; have HT4 := Lib.hid (HA3.out.tab.grew hg4); clear hg4 ho4) | (go_at_call 66; (with_reducible refine (HDe.out _ _ w3.heap.size _ HT4.out HA3.out.tab.lt HO4.out).mono ?_); rintro e5 w5 ⟨rfl, ho5, hg5⟩; have HO5 := Lib.hid ho5; have HQ5 := Lib.hid hg5; clear ho5 hg5; have HP5 := Lib.hid ((HA3.out.pipe.grew HG4.out).grown HQ5.out fun e => (by have h1 := own_base HO4.out bp e; have h2 := HA3.out.pipe.lt; omega)); obtain ⟨pl, p0, p1, p2, f0, f1', f2⟩ := p3_in HP5.out))
              have HD := Lib.hid (HA3.out.other HG4.out HO5.out rfl HQ5.out (own_base HO4.out))
              clear HO5 HQ5 HP5 HO4 HG4 HT4 HA3 HDe HRl pl p0 p1 p2 f0 f1' f2 q0 q1
              generalize w5.setCell ⟨bp, 2, none⟩ (.slice A4 nl.length k4) = w6 at *
              have HSo : Hid (∀ W, W.ownsRow W2.heap.size 3 1 (.slice A4 nl.length k4) nl.length (iV nl) → Calls Try.prog 68 #[.slice A4 nl.length k4] W fun e w' => e = .returned (.tuple #[]) ∧ w'.ownsRow W2.heap.size 3 1 (.slice A4 nl.length k4) nl.length (iV (sortI nl)) ∧ W.grownBy w' (Value.slice A4 nl.length k4).ownBlock) := Lib.hid fun W hW => sort_own nl HNz.out A4 k4 _ W hW
              have HCo : Hid (∀ W, W.ownsRow W2.heap.size 3 1 (.slice A4 nl.length k4) nl.length (iV (sortI nl)) → Calls Try.prog 69 #[.slice A4 nl.length k4] W fun e w' => e = .returned (.slice A4 (needS L order cnt t).length k4) ∧ w'.ownsRow W2.heap.size 3 1 (.slice A4 (needS L order cnt t).length k4) (needS L order cnt t).length (iV (needS L order cnt t)) ∧ W.grownBy w' (Value.slice A4 nl.length k4).ownBlock) := Lib.hid fun W hW => by
                have hls : nl.length = (sortI nl).length := (sortI_len nl).symm
                rw [HNs.out]
                rw [hls] at hW ⊢
                exact compact_own (sortI nl) (by rw [← hls]; exact HNz.out) A4 k4 _ W hW
              have HSl : Hid (nl.length = (sortI nl).length) := Lib.hid ((sortI_len nl).symm)
              clear HNs
              generalize needS L order cnt t = ns at *
              obtain ⟨pl, p0, p1, p2, f0, f1', f2⟩ := p3_in HD.out.pipe
              go_upto_region 20 with (go_at_call 68; (with_reducible refine (HSo.out _ HD.out.own).mono ?_); rintro e7 w7 ⟨rfl, ho7, hg7⟩; have HD7 := Lib.hid (HD.out.turn ho7 HSl.out hg7); clear ho7 hg7)
              clear pl p0 p1 p2 f0 f1' f2
              obtain ⟨pl, p0, p1, p2, f0, f1', f2⟩ := p3_in HD7.out.pipe
              go_upto_region 21 with (go_at_call 69; (with_reducible refine (HCo.out _ HD7.out.own).mono ?_); rintro e8 w8 ⟨rfl, ho8, hg8⟩; have HO8 := Lib.hid ho8; have HQ8 := Lib.hid hg8; clear ho8 hg8; have HP8 := Lib.hid (HD7.out.pipe.grown HQ8.out fun e => (by have h1 := own_base HD7.out.own bp e; have h2 := HD7.out.low.2.1; omega)); clear pl p0 p1 p2 f0 f1' f2; obtain ⟨pl, p0, p1, p2, f0, f1', f2⟩ := p3_in HP8.out)
              have HD8 := Lib.hid (HD7.out.less HO8.out rfl HQ8.out)
              clear HO8 HQ8 HP8 pl p0 p1 p2 f0 f1' f2 HSo HCo HD HD7
              generalize w8.setCell ⟨bp, 2, none⟩ (.slice A4 ns.length k4) = w9 at *
              obtain ⟨pl, p0, p1, p2, f0, f1', f2⟩ := p3_in HD8.out.pipe
              have HGa := Lib.hid (HG.out.on HD8.out.grew)
              go_wp2_with (at_builtin; refine wpList_appB rfl _ _ 48 82 3 rfl W0.heap.size (.agg #[.slice none 0 0, .slice none 0 0, .slice none 0 0]) 72 Try.underlying48 infoPi rfl (by decide) (by decide) _ t css.flatten rfl (by have h := (HGa.out.on ((Grew.refl _).alloc (.cells #[.slice X2 m2 k2, .slice F1 M.length f1, .slice A4 ns.length k4] 82))).own; rw [needsA_len] at h; exact h) _ 1 1 [.slice X2 m2 k2, .slice F1 M.length f1, .slice A4 ns.length k4] rfl rfl (row_new _ 82 _ #[.slice X2 m2 k2, .slice F1 M.length f1, .slice A4 ns.length k4] rfl) (by simp [Value.oneCell']) (by omega) (by rw [World.size_alloc]; have := HGa.out.grew.size; omega) ?_; intro A10 c10 w10 ho10 hg10; have HO10 := Lib.hid ho10; have HQ10 := Lib.hid hg10; clear ho10 hg10)
              have hsn := (HGa.out.on ((Grew.refl _).alloc (.cells #[.slice X2 m2 k2, .slice F1 M.length f1, .slice A4 ns.length k4] 82))).snoc (x := ns) (cs := [.slice X2 m2 k2, .slice F1 M.length f1, .slice A4 ns.length k4]) ⟨⟨X2, m2, k2⟩, ⟨F1, M.length, f1⟩, A4, k4, rfl, ((TRow.own HD8.out.own).low (Nat.le_trans HG.out.grew.size HD8.out.low.2.2)).grew ((Grew.refl _).alloc _)⟩ (by rw [needsA_len]; exact HO10.out) (by rw [needsA_len]; exact HQ10.out)
              have HS10 := Lib.hid hsn
              clear hsn
              exact ⟨⟨t + 1, A10, c10, _, by omega, by go_num, rfl, by rw [HNd.out]; exact HS10.out⟩, by simp only [intOf]; first | omega | (have := HT0.out; omega)⟩
            · have e2 : ((t : Int) == dr) = false := by rw [beq_eq_false_iff_ne]; exact fun e => hd2 e.symm
              have hnl := HNm.out hd1
              have HNc := Lib.hid hnl
              clear hd1 hd2 hnl HNl HNm
              have HD0 := HA3.out.needs
              rw [← HNc.out] at HD0
              have HD := Lib.hid HD0
              have HMl : Hid (M.length = (needL L order cnt t).length) := Lib.hid (by rw [HNc.out, rcP_len])
              clear HD0 HNc HA3
              generalize needL L order cnt t = nl at *
              go_upto_region 19 with fail
              have HSo : Hid (∀ W, W.ownsRow W2.heap.size 3 1 (.slice N1 M.length k1) M.length (iV nl) → Calls Try.prog 68 #[.slice N1 M.length k1] W fun e w' => e = .returned (.tuple #[]) ∧ w'.ownsRow W2.heap.size 3 1 (.slice N1 M.length k1) M.length (iV (sortI nl)) ∧ W.grownBy w' (Value.slice N1 M.length k1).ownBlock) := Lib.hid fun W hW => by
                rw [HMl.out] at hW ⊢
                exact sort_own nl HNz.out N1 k1 _ W hW
              have HCo : Hid (∀ W, W.ownsRow W2.heap.size 3 1 (.slice N1 M.length k1) M.length (iV (sortI nl)) → Calls Try.prog 69 #[.slice N1 M.length k1] W fun e w' => e = .returned (.slice N1 (needS L order cnt t).length k1) ∧ w'.ownsRow W2.heap.size 3 1 (.slice N1 (needS L order cnt t).length k1) (needS L order cnt t).length (iV (needS L order cnt t)) ∧ W.grownBy w' (Value.slice N1 M.length k1).ownBlock) := Lib.hid fun W hW => by
                have hls : M.length = (sortI nl).length := by rw [sortI_len]; exact HMl.out
                rw [HNs.out]
                rw [hls] at hW ⊢
                exact compact_own (sortI nl) (by rw [← hls, HMl.out]; exact HNz.out) N1 k1 _ W hW
              have HSl : Hid (M.length = (sortI nl).length) := Lib.hid (by rw [sortI_len]; exact HMl.out)
              clear HNs
              generalize needS L order cnt t = ns at *
              obtain ⟨pl, p0, p1, p2, f0, f1', f2⟩ := p3_in HD.out.pipe
              go_upto_region 20 with (go_at_call 68; (with_reducible refine (HSo.out _ HD.out.own).mono ?_); rintro e7 w7 ⟨rfl, ho7, hg7⟩; have HD7 := Lib.hid (HD.out.turn ho7 HSl.out hg7); clear ho7 hg7)
              clear pl p0 p1 p2 f0 f1' f2
              obtain ⟨pl, p0, p1, p2, f0, f1', f2⟩ := p3_in HD7.out.pipe
              go_upto_region 21 with (go_at_call 69; (with_reducible refine (HCo.out _ HD7.out.own).mono ?_); rintro e8 w8 ⟨rfl, ho8, hg8⟩; have HO8 := Lib.hid ho8; have HQ8 := Lib.hid hg8; clear ho8 hg8; have HP8 := Lib.hid (HD7.out.pipe.grown HQ8.out fun e => (by have h1 := own_base HD7.out.own bp e; have h2 := HD7.out.low.2.1; omega)); clear pl p0 p1 p2 f0 f1' f2; obtain ⟨pl, p0, p1, p2, f0, f1', f2⟩ := p3_in HP8.out)
              have HD8 := Lib.hid (HD7.out.less HO8.out rfl HQ8.out)
              clear HO8 HQ8 HP8 pl p0 p1 p2 f0 f1' f2 HSo HCo HD HD7
              generalize w8.setCell ⟨bp, 2, none⟩ (.slice N1 ns.length k1) = w9 at *
              obtain ⟨pl, p0, p1, p2, f0, f1', f2⟩ := p3_in HD8.out.pipe
              have HGa := Lib.hid (HG.out.on HD8.out.grew)
              go_wp2_with (at_builtin; refine wpList_appB rfl _ _ 48 82 3 rfl W0.heap.size (.agg #[.slice none 0 0, .slice none 0 0, .slice none 0 0]) 72 Try.underlying48 infoPi rfl (by decide) (by decide) _ t css.flatten rfl (by have h := (HGa.out.on ((Grew.refl _).alloc (.cells #[.slice X2 m2 k2, .slice F1 M.length f1, .slice N1 ns.length k1] 82))).own; rw [needsA_len] at h; exact h) _ 1 1 [.slice X2 m2 k2, .slice F1 M.length f1, .slice N1 ns.length k1] rfl rfl (row_new _ 82 _ #[.slice X2 m2 k2, .slice F1 M.length f1, .slice N1 ns.length k1] rfl) (by simp [Value.oneCell']) (by omega) (by rw [World.size_alloc]; have := HGa.out.grew.size; omega) ?_; intro A10 c10 w10 ho10 hg10; have HO10 := Lib.hid ho10; have HQ10 := Lib.hid hg10; clear ho10 hg10)
              have hsn := (HGa.out.on ((Grew.refl _).alloc (.cells #[.slice X2 m2 k2, .slice F1 M.length f1, .slice N1 ns.length k1] 82))).snoc (x := ns) (cs := [.slice X2 m2 k2, .slice F1 M.length f1, .slice N1 ns.length k1]) ⟨⟨X2, m2, k2⟩, ⟨F1, M.length, f1⟩, N1, k1, rfl, ((TRow.own HD8.out.own).low (Nat.le_trans HG.out.grew.size HD8.out.low.2.2)).grew ((Grew.refl _).alloc _)⟩ (by rw [needsA_len]; exact HO10.out) (by rw [needsA_len]; exact HQ10.out)
              have HS10 := Lib.hid hsn
              clear hsn
              exact ⟨⟨t + 1, A10, c10, _, by omega, by go_num, rfl, by rw [HNd.out]; exact HS10.out⟩, by simp only [intOf]; first | omega | (have := HT0.out; omega)⟩
      · have e1 : decide ((t : Int) < (sc.length : Int)) = false := decide_eq_false (by omega)
        obtain ⟨z, rfl⟩ : ∃ z, t = sc.length + z := ⟨t - sc.length, by omega⟩
        have hzl : z < l.length := by have := HCn.out; omega
        have hsb : IntKind.i64.wrap (((sc.length + z : Nat) : Int) - (sc.length : Int)) = (z : Int) := by rw [IntWalk.i64_in _ (by omega)]; omega
        obtain ⟨b, o, X, xx, rfl, hb, hc, hcl⟩ := HLate.out z hzl W1 ((HG0.out.trans HG.out.grew).trans HG1.out)
        have HCl := Lib.hid hcl
        have hzi : (z : Int) < (l.length : Int) := by omega
        clear hcl
        generalize l[z].scan.length = sl at *
        generalize ht0 : sc.length + z = t at *
        have HT0 := Lib.hid ht0
        clear ht0
        go_upto_region 10 with (go_at_call 38; (with_reducible refine (HCl.out _ (Grew.refl _)).mono ?_); rintro e2 w2 ⟨X2, m2, k2, rfl, hg2⟩; have HG2 := Lib.hid hg2; have HP2 := Lib.hid (HP1.out.grew hg2); clear hg2; clear f0 f1 f2 pl p0 p1 p2; obtain ⟨pl, p0, p1, p2, f0, f1, f2⟩ := p3_in HP2.out)
        clear f0 f1 f2 pl p0 p1 p2 xl x0 x1 x2 x3 x4 x5 q0 q1 hb hc
        have HA2 : Hid (PipA wr (w2.setCell ⟨bp, 0, none⟩ (.slice X2 m2 k2)) bt bp t (.slice X2 m2 k2) [] none 0 none 0 (w2.setCell ⟨bp, 0, none⟩ (.slice X2 m2 k2))) := Lib.hid (by
          have hl := HP2.out.lt
          have ht := (HT1.out.grew HG2.out).lt
          refine ⟨(HG1.out.trans HG2.out).setCell (by rw [HBt.out]; exact HLo.out.1) _, ?_, (HT1.out.grew HG2.out).far HLo.out.2 _, Two.nil _, ⟨by rw [HBt.out]; exact HLo.out.1, by rw [World.size_setCell]; exact hl, by rw [World.size_setCell]; exact ht, HLo.out.2, by rw [World.size_setCell]; exact (HG1.out.trans HG2.out).size⟩, Nat.le_refl _⟩
          have := HP2.out.set 0 (.slice X2 m2 k2)
          simpa using this)
        clear HCl HP2 HG2
        generalize (w2.setCell ⟨bp, 0, none⟩ (.slice X2 m2 k2)) = W2 at *
        obtain ⟨yl, y0, y1, y2, y3, y4, y5⟩ := pl_in (HP0.out.grew (HG.out.grew.trans HA2.out.grew))
        go_wp2_with fail
        clear yl y0 y1 y2 y3 y4 y5
        obtain ⟨wo, rfl⟩ : ∃ wo : World, wo = wr := ⟨_, rfl⟩
        go_loopw [50] (fun i wx => PpI wo W2 bt bp t (.slice X2 m2 k2) L i wx) (fun i _ => L.length - (intOf i).toNat)
        case atStart => exact ⟨0, none, 0, none, 0, Nat.zero_le _, rfl, HA2.out⟩
        case round =>
          obtain ⟨q, F1, f1, N1, k1, hq, rfl, hA⟩ := hrel
          have HA := Lib.hid hA
          clear hA
          by_cases hql : q < L.length
          · obtain ⟨bf, off, Xa, xa, Xb, xb, rfl, hbf, g0, g1, g2, g3, _, _⟩ := fvsR_at (RF.out.grew ((HG0.out.trans HG.out.grew).trans HA.out.grew)) hql
            have HPu : Hid (L[q].t = t → filtP L t (q + 1) = filtP L t q ++ [((q : Int), L[q].f)]) := Lib.hid fun h => filtP_put hql h
            have HSk : Hid (¬ L[q].t = t → filtP L t (q + 1) = filtP L t q) := Lib.hid fun h => filtP_skip hql h
            have hfl := filtP_len L t q
            generalize filtP L t q = M at *
            generalize L[q] = y at *
            go_upto_region 13 with fail
            have HA4 : Hid (PipA wo W2 bt bp t (.slice X2 m2 k2) M F1 f1 N1 k1 (wr.alloc (.cells #[.int .i64 y.f, .slice Xa y.a.length xa, .int .i64 y.t, .slice Xb y.b.length xb] 43))) := Lib.hid (HA.out.on ((Grew.refl wr).alloc _))
            have HFb : Hid (Blok (wr.alloc (.cells #[.int .i64 y.f, .slice Xa y.a.length xa, .int .i64 y.t, .slice Xb y.b.length xb] 43)) wr.heap.size 43 #[.int .i64 y.f, .slice Xa y.a.length xa, .int .i64 y.t, .slice Xb y.b.length xb]) := Lib.hid (Blok.new _ _ _ _ rfl)
            have HFr : Hid ((∀ i, (Value.slice F1 M.length f1).ownBlock = some i → i ≠ wr.heap.size) ∧ wr.heap.size ≠ bp) := Lib.hid ⟨fun i hi => by have := own_lt HA.out.two.one i hi; omega, by have := HA.out.low.2.1; have := HA.out.size; omega⟩
            clear hbf g0 g1 g2 g3 HA
            generalize (wr.alloc (.cells #[.int .i64 y.f, .slice Xa y.a.length xa, .int .i64 y.t, .slice Xb y.b.length xb] 43)) = W4 at *
            generalize wr.heap.size = bfl at *
            obtain ⟨fl, f40, f41, f42, f43⟩ := f4_in HFb.out
            have q0 := HA4.out.tab.cell 0
            have q1 := HA4.out.tab.lt
            simp at q0
            by_cases hyt : y.t = t
            · have e2 : (y.t == (t : Int)) = true := by simpa using hyt
              have HLx := Lib.hid (HPu.out hyt)
              clear HPu HSk hyt
              go_upto_region 14 with fail
              obtain ⟨pl, p0, p1, p2, f0, f1', f2⟩ := p3_in HA4.out.pipe
              go_upto_region 15 with (at_builtin; refine wpList_appC rfl _ _ 30 3 1 rfl W2.heap.size (.int .i64 0) 8 Try.underlying30 infoI rfl (by decide) (by decide) _ M.length (iV (lcP M)) rfl (own_alloc HA4.out.two.one _) _ 1 1 [.int .i64 q] rfl rfl (row_one _ _ _ _ rfl) (by simp [Value.oneCell']) (by omega) (by rw [World.size_alloc]; have := HA4.out.size; omega) ?_; intro A5 c5 w5 ho5 hg5 hor5; have HO5 := Lib.hid ho5; have HQ5 := Lib.hid hg5; have HR5 := Lib.hid hor5; clear ho5 hg5 hor5; have HP5 := Lib.hid ((HA4.out.pipe.alloc (.cells #[.int .i64 q] 3)).grown HQ5.out fun e => (by have h1 := own_base HA4.out.two.one bp e; have h2 := HA4.out.low.2.1; omega)); clear pl p0 p1 p2 f0 f1' f2; obtain ⟨pl, p0, p1, p2, f0, f1', f2⟩ := p3_in HP5.out)
              have HH5 : Hid (PipH wo W2 bt bp t (.slice X2 m2 k2) M q A5 c5 N1 k1 (w5.setCell ⟨bp, 1, none⟩ (.slice A5 (M.length + 1) c5))) := Lib.hid ((HA4.out.on ((Grew.refl _).alloc _)).half HO5.out HQ5.out HR5.out)
              have HF6 : Hid (Blok (w5.setCell ⟨bp, 1, none⟩ (.slice A5 (M.length + 1) c5)) bfl 43 #[.int .i64 y.f, .slice Xa y.a.length xa, .int .i64 y.t, .slice Xb y.b.length xb]) := Lib.hid (((HFb.out.alloc _).grown HQ5.out fun e => HFr.out.1 _ e rfl).far HFr.out.2 _)
              clear HO5 HQ5 HR5 HP5 HFb HA4 pl p0 p1 p2 f0 f1' f2 fl f40 f41 f42 f43 q0 q1
              generalize (w5.setCell ⟨bp, 1, none⟩ (.slice A5 (M.length + 1) c5)) = w6 at *
              obtain ⟨pl, p0, p1, p2, f0, f1', f2⟩ := p3_in HH5.out.pipe
              obtain ⟨fl, f40, f41, f42, f43⟩ := f4_in HF6.out
              go_wp2_with (at_builtin; refine wpList_appC rfl _ _ 30 3 1 rfl W2.heap.size (.int .i64 0) 8 Try.underlying30 infoI rfl (by decide) (by decide) _ M.length (iV (rcP M)) rfl (own_alloc HH5.out.two.two _) _ 1 1 [.int .i64 y.f] rfl rfl (row_one _ _ _ _ rfl) (by simp [Value.oneCell']) (by omega) (by rw [World.size_alloc]; have := HH5.out.size; omega) ?_; intro A7 c7 w7 ho7 hg7 hor7; have HO7 := Lib.hid ho7; have HQ7 := Lib.hid hg7; have HR7 := Lib.hid hor7; clear ho7 hg7 hor7; have HP7 := Lib.hid ((HH5.out.pipe.alloc (.cells #[.int .i64 y.f] 3)).grown HQ7.out fun e => (by have h1 := own_base HH5.out.two.two bp e; have h2 := HH5.out.low.2.1; omega)); clear pl p0 p1 p2 f0 f1' f2; obtain ⟨pl, p0, p1, p2, f0, f1', f2⟩ := p3_in HP7.out)
              have HA8 := Lib.hid ((HH5.out.on ((Grew.refl _).alloc _)).whole HO7.out HQ7.out HR7.out)
              exact ⟨⟨q + 1, A5, c5, A7, c7, by omega, by go_num, by rw [HLx.out]; exact HA8.out⟩, by simp only [intOf]; omega⟩
            · have e2 : (y.t == (t : Int)) = false := by simpa using hyt
              have HLx := Lib.hid (HSk.out hyt)
              clear HPu HSk hyt
              go_wp2_with fail
              exact ⟨⟨q + 1, F1, f1, N1, k1, by omega, by go_num, by rw [HLx.out]; exact HA4.out⟩, by simp only [intOf]; omega⟩
          · obtain rfl : q = L.length := by omega
            have HNl : Hid (order.head? = some (t : Int) → needL L order cnt t = (risI cnt).filter fun i => !decide (i = (t : Int))) := Lib.hid fun h => if_pos h
            have HNm : Hid (¬ order.head? = some (t : Int) → needL L order cnt t = rcP (filtP L t L.length)) := Lib.hid fun h => if_neg h
            have HNz : Hid ((needL L order cnt t).length ≤ 1000000) := Lib.hid (by have := needL_len L order cnt t; omega)
            have HNs : Hid (needS L order cnt t = Lib.compact (sortI (needL L order cnt t))) := Lib.hid rfl
            have HDr1 := Lib.hid (fun W (hW : Grew wo W) => HDr.out W ((HG0.out.trans HG.out.grew).trans hW))
            have hdd : (order.head? = some (t : Int) ∧ order.head?.getD (-1) = (t : Int)) ∨ (¬ order.head? = some (t : Int) ∧ ¬ order.head?.getD (-1) = (t : Int)) := by
              cases ho : order.head? with
              | none => exact Or.inr ⟨by simp, by simp⟩
              | some y =>
                by_cases hy : y = (t : Int)
                · exact Or.inl ⟨by rw [hy], by simpa using hy⟩
                · exact Or.inr ⟨by simpa using hy, by simpa using hy⟩
            generalize filtP L t L.length = M at *
            generalize order.head?.getD (-1) = dr at *
            have HPw := Lib.hid (fun W (hW : Grew wo W) => HP0.out.grew (HG.out.grew.trans hW))
            go_upto_region 17 with fail
            have hS0 : Grew wr wr.drew := (Grew.refl wr).drew
            refine wp_region_S (fun W => Grew wr W) (by kernel_rfl) ?_
            refine held_take 0 (v := ?_) rfl (by kernel_rfl) (by kernel_rfl) (by kernel_rfl) (fun _ _ _ h => h) (by rfl) ?_ hS0 ?_
            rotate_left
            · (intro W hW; have q0 := (HA.out.tab.grew hW).cell 0; have q1 := (HA.out.tab.grew hW).lt; simp at q0; obtain ⟨yl, y0, y1, y2, y3, y4, y5⟩ := pl_in (HPw.out _ (HA.out.grew.trans hW)); go_simp; with_reducible rfl)
            refine held_take 1 (v := ?_) rfl (by kernel_rfl) (by kernel_rfl) (by kernel_rfl) (fun _ _ _ h => h) (by rfl) ?_ hS0 ?_
            rotate_left
            · (intro W hW; have q0 := (HA.out.tab.grew hW).cell 0; have q1 := (HA.out.tab.grew hW).lt; simp at q0; obtain ⟨yl, y0, y1, y2, y3, y4, y5⟩ := pl_in (HPw.out _ (HA.out.grew.trans hW)); go_simp; with_reducible rfl)
            refine held_norm (a' := ?_) ?_ ?_
            rotate_left
            · (go_simp; with_reducible rfl)
            refine held_call 2 (by kernel_rfl) rfl (by rfl) (fun K hK => ?_)
            go_simp
            go_wp2_with ((go_at_call 17; (with_reducible refine (HDr1.out _ (HA.out.grew.trans hS0)).grows.mono ?_); rintro e3 w3 ⟨rfl, hg3⟩; have hS3 := hS0.trans hg3))
            refine hK.out _ _ hS3 ?_
            clear hK K
            refine held_take 3 (v := ?_) rfl (by kernel_rfl) (by kernel_rfl) (by kernel_rfl) (fun _ _ _ h => h) (by rfl) ?_ hS3 ?_
            rotate_left
            · (intro W hW; go_simp; with_reducible rfl)
            refine held_norm (a' := ?_) ?_ ?_
            rotate_left
            · (go_simp; with_reducible rfl)
            refine held_done (by kernel_rfl) ?_
            have HA3 := Lib.hid (HA.out.on hS3)
            clear hS3 hg3 hS0 HA HDr HDr1 RF
            rcases hdd with ⟨hd1, hd2⟩ | ⟨hd1, hd2⟩
            · have e2 : ((t : Int) == dr) = true := by rw [hd2]; simp
              have hnl := HNl.out hd1
              have HNc := Lib.hid hnl
              clear hd1 hd2 hnl HNl HNm
              have q0 := HA3.out.tab.cell 0
              have q1 := HA3.out.tab.lt
              simp at q0
              have HRl : Hid ((risI cnt).length ≤ 1000000) := Lib.hid (by rw [risI_len]; omega)
              have HDe : Hid (∀ A c0 base W, Blok W bt 3 #[.int .i64 t] → bt < base → W.ownsRow base 3 1 (.slice A (risI cnt).length c0) (risI cnt).length (iV (risI cnt)) → Calls Try.prog 66 #[.slice A (risI cnt).length c0, .func (.func 67) #[] #[.pointer (some ⟨bt, 0, none⟩)]] W fun en w' => en = .returned (.slice A (needL L order cnt t).length c0) ∧ w'.ownsRow base 3 1 (.slice A (needL L order cnt t).length c0) (needL L order cnt t).length (iV (needL L order cnt t)) ∧ W.grownBy w' (Value.slice A (risI cnt).length c0).ownBlock) := Lib.hid fun A c0 base W h1 h2 h3 => by
                rw [HNc.out]
                exact pdel_own t (risI cnt) HRl.out A c0 base bt W h1 h2 h3
              clear HNc
              generalize needL L order cnt t = nl at *
              generalize risI cnt = rl at *
              go_upto_region 19 with (first | (go_at_call 36; (with_reducible refine (HRi.out _).mono ?_); rintro e4 w4 ⟨A4, k4, rfl, hg4, ho4⟩; have HG4 := Lib.hid hg4; have HO4 := Lib.hid ho4; have HT4 := Lib.hid (HA3.out.tab.grew hg4); clear hg4 ho4) | (go_at_call 66; (with_reducible refine (HDe.out _ _ w3.heap.size _ HT4.out HA3.out.tab.lt HO4.out).mono ?_); rintro e5 w5 ⟨rfl, ho5, hg5⟩; have HO5 := Lib.hid ho5; have HQ5 := Lib.hid hg5; clear ho5 hg5; have HP5 := Lib.hid ((HA3.out.pipe.grew HG4.out).grown HQ5.out fun e => (by have h1 := own_base HO4.out bp e; have h2 := HA3.out.pipe.lt; omega)); obtain ⟨pl, p0, p1, p2, f0, f1', f2⟩ := p3_in HP5.out))
              have HD := Lib.hid (HA3.out.other HG4.out HO5.out rfl HQ5.out (own_base HO4.out))
              clear HO5 HQ5 HP5 HO4 HG4 HT4 HA3 HDe HRl pl p0 p1 p2 f0 f1' f2 q0 q1
              generalize w5.setCell ⟨bp, 2, none⟩ (.slice A4 nl.length k4) = w6 at *
              have HSo : Hid (∀ W, W.ownsRow W2.heap.size 3 1 (.slice A4 nl.length k4) nl.length (iV nl) → Calls Try.prog 68 #[.slice A4 nl.length k4] W fun e w' => e = .returned (.tuple #[]) ∧ w'.ownsRow W2.heap.size 3 1 (.slice A4 nl.length k4) nl.length (iV (sortI nl)) ∧ W.grownBy w' (Value.slice A4 nl.length k4).ownBlock) := Lib.hid fun W hW => sort_own nl HNz.out A4 k4 _ W hW
              have HCo : Hid (∀ W, W.ownsRow W2.heap.size 3 1 (.slice A4 nl.length k4) nl.length (iV (sortI nl)) → Calls Try.prog 69 #[.slice A4 nl.length k4] W fun e w' => e = .returned (.slice A4 (needS L order cnt t).length k4) ∧ w'.ownsRow W2.heap.size 3 1 (.slice A4 (needS L order cnt t).length k4) (needS L order cnt t).length (iV (needS L order cnt t)) ∧ W.grownBy w' (Value.slice A4 nl.length k4).ownBlock) := Lib.hid fun W hW => by
                have hls : nl.length = (sortI nl).length := (sortI_len nl).symm
                rw [HNs.out]
                rw [hls] at hW ⊢
                exact compact_own (sortI nl) (by rw [← hls]; exact HNz.out) A4 k4 _ W hW
              have HSl : Hid (nl.length = (sortI nl).length) := Lib.hid ((sortI_len nl).symm)
              clear HNs
              generalize needS L order cnt t = ns at *
              obtain ⟨pl, p0, p1, p2, f0, f1', f2⟩ := p3_in HD.out.pipe
              go_upto_region 20 with (go_at_call 68; (with_reducible refine (HSo.out _ HD.out.own).mono ?_); rintro e7 w7 ⟨rfl, ho7, hg7⟩; have HD7 := Lib.hid (HD.out.turn ho7 HSl.out hg7); clear ho7 hg7)
              clear pl p0 p1 p2 f0 f1' f2
              obtain ⟨pl, p0, p1, p2, f0, f1', f2⟩ := p3_in HD7.out.pipe
              go_upto_region 21 with (go_at_call 69; (with_reducible refine (HCo.out _ HD7.out.own).mono ?_); rintro e8 w8 ⟨rfl, ho8, hg8⟩; have HO8 := Lib.hid ho8; have HQ8 := Lib.hid hg8; clear ho8 hg8; have HP8 := Lib.hid (HD7.out.pipe.grown HQ8.out fun e => (by have h1 := own_base HD7.out.own bp e; have h2 := HD7.out.low.2.1; omega)); clear pl p0 p1 p2 f0 f1' f2; obtain ⟨pl, p0, p1, p2, f0, f1', f2⟩ := p3_in HP8.out)
              have HD8 := Lib.hid (HD7.out.less HO8.out rfl HQ8.out)
              clear HO8 HQ8 HP8 pl p0 p1 p2 f0 f1' f2 HSo HCo HD HD7
              generalize w8.setCell ⟨bp, 2, none⟩ (.slice A4 ns.length k4) = w9 at *
              obtain ⟨pl, p0, p1, p2, f0, f1', f2⟩ := p3_in HD8.out.pipe
              have HGa := Lib.hid (HG.out.on HD8.out.grew)
              go_wp2_with (at_builtin; refine wpList_appB rfl _ _ 48 82 3 rfl W0.heap.size (.agg #[.slice none 0 0, .slice none 0 0, .slice none 0 0]) 72 Try.underlying48 infoPi rfl (by decide) (by decide) _ t css.flatten rfl (by have h := (HGa.out.on ((Grew.refl _).alloc (.cells #[.slice X2 m2 k2, .slice F1 M.length f1, .slice A4 ns.length k4] 82))).own; rw [needsA_len] at h; exact h) _ 1 1 [.slice X2 m2 k2, .slice F1 M.length f1, .slice A4 ns.length k4] rfl rfl (row_new _ 82 _ #[.slice X2 m2 k2, .slice F1 M.length f1, .slice A4 ns.length k4] rfl) (by simp [Value.oneCell']) (by omega) (by rw [World.size_alloc]; have := HGa.out.grew.size; omega) ?_; intro A10 c10 w10 ho10 hg10; have HO10 := Lib.hid ho10; have HQ10 := Lib.hid hg10; clear ho10 hg10)
              have hsn := (HGa.out.on ((Grew.refl _).alloc (.cells #[.slice X2 m2 k2, .slice F1 M.length f1, .slice A4 ns.length k4] 82))).snoc (x := ns) (cs := [.slice X2 m2 k2, .slice F1 M.length f1, .slice A4 ns.length k4]) ⟨⟨X2, m2, k2⟩, ⟨F1, M.length, f1⟩, A4, k4, rfl, ((TRow.own HD8.out.own).low (Nat.le_trans HG.out.grew.size HD8.out.low.2.2)).grew ((Grew.refl _).alloc _)⟩ (by rw [needsA_len]; exact HO10.out) (by rw [needsA_len]; exact HQ10.out)
              have HS10 := Lib.hid hsn
              clear hsn
              exact ⟨⟨t + 1, A10, c10, _, by omega, by go_num, rfl, by rw [HNd.out]; exact HS10.out⟩, by simp only [intOf]; first | omega | (have := HT0.out; omega)⟩
            · have e2 : ((t : Int) == dr) = false := by rw [beq_eq_false_iff_ne]; exact fun e => hd2 e.symm
              have hnl := HNm.out hd1
              have HNc := Lib.hid hnl
              clear hd1 hd2 hnl HNl HNm
              have HD0 := HA3.out.needs
              rw [← HNc.out] at HD0
              have HD := Lib.hid HD0
              have HMl : Hid (M.length = (needL L order cnt t).length) := Lib.hid (by rw [HNc.out, rcP_len])
              clear HD0 HNc HA3
              generalize needL L order cnt t = nl at *
              go_upto_region 19 with fail
              have HSo : Hid (∀ W, W.ownsRow W2.heap.size 3 1 (.slice N1 M.length k1) M.length (iV nl) → Calls Try.prog 68 #[.slice N1 M.length k1] W fun e w' => e = .returned (.tuple #[]) ∧ w'.ownsRow W2.heap.size 3 1 (.slice N1 M.length k1) M.length (iV (sortI nl)) ∧ W.grownBy w' (Value.slice N1 M.length k1).ownBlock) := Lib.hid fun W hW => by
                rw [HMl.out] at hW ⊢
                exact sort_own nl HNz.out N1 k1 _ W hW
              have HCo : Hid (∀ W, W.ownsRow W2.heap.size 3 1 (.slice N1 M.length k1) M.length (iV (sortI nl)) → Calls Try.prog 69 #[.slice N1 M.length k1] W fun e w' => e = .returned (.slice N1 (needS L order cnt t).length k1) ∧ w'.ownsRow W2.heap.size 3 1 (.slice N1 (needS L order cnt t).length k1) (needS L order cnt t).length (iV (needS L order cnt t)) ∧ W.grownBy w' (Value.slice N1 M.length k1).ownBlock) := Lib.hid fun W hW => by
                have hls : M.length = (sortI nl).length := by rw [sortI_len]; exact HMl.out
                rw [HNs.out]
                rw [hls] at hW ⊢
                exact compact_own (sortI nl) (by rw [← hls, HMl.out]; exact HNz.out) N1 k1 _ W hW
              have HSl : Hid (M.length = (sortI nl).length) := Lib.hid (by rw [sortI_len]; exact HMl.out)
              clear HNs
              generalize needS L order cnt t = ns at *
              obtain ⟨pl, p0, p1, p2, f0, f1', f2⟩ := p3_in HD.out.pipe
              go_upto_region 20 with (go_at_call 68; (with_reducible refine (HSo.out _ HD.out.own).mono ?_); rintro e7 w7 ⟨rfl, ho7, hg7⟩; have HD7 := Lib.hid (HD.out.turn ho7 HSl.out hg7); clear ho7 hg7)
              clear pl p0 p1 p2 f0 f1' f2
              obtain ⟨pl, p0, p1, p2, f0, f1', f2⟩ := p3_in HD7.out.pipe
              go_upto_region 21 with (go_at_call 69; (with_reducible refine (HCo.out _ HD7.out.own).mono ?_); rintro e8 w8 ⟨rfl, ho8, hg8⟩; have HO8 := Lib.hid ho8; have HQ8 := Lib.hid hg8; clear ho8 hg8; have HP8 := Lib.hid (HD7.out.pipe.grown HQ8.out fun e => (by have h1 := own_base HD7.out.own bp e; have h2 := HD7.out.low.2.1; omega)); clear pl p0 p1 p2 f0 f1' f2; obtain ⟨pl, p0, p1, p2, f0, f1', f2⟩ := p3_in HP8.out)
              have HD8 := Lib.hid (HD7.out.less HO8.out rfl HQ8.out)
              clear HO8 HQ8 HP8 pl p0 p1 p2 f0 f1' f2 HSo HCo HD HD7
              generalize w8.setCell ⟨bp, 2, none⟩ (.slice N1 ns.length k1) = w9 at *
              obtain ⟨pl, p0, p1, p2, f0, f1', f2⟩ := p3_in HD8.out.pipe
              have HGa := Lib.hid (HG.out.on HD8.out.grew)
              go_wp2_with (at_builtin; refine wpList_appB rfl _ _ 48 82 3 rfl W0.heap.size (.agg #[.slice none 0 0, .slice none 0 0, .slice none 0 0]) 72 Try.underlying48 infoPi rfl (by decide) (by decide) _ t css.flatten rfl (by have h := (HGa.out.on ((Grew.refl _).alloc (.cells #[.slice X2 m2 k2, .slice F1 M.length f1, .slice N1 ns.length k1] 82))).own; rw [needsA_len] at h; exact h) _ 1 1 [.slice X2 m2 k2, .slice F1 M.length f1, .slice N1 ns.length k1] rfl rfl (row_new _ 82 _ #[.slice X2 m2 k2, .slice F1 M.length f1, .slice N1 ns.length k1] rfl) (by simp [Value.oneCell']) (by omega) (by rw [World.size_alloc]; have := HGa.out.grew.size; omega) ?_; intro A10 c10 w10 ho10 hg10; have HO10 := Lib.hid ho10; have HQ10 := Lib.hid hg10; clear ho10 hg10)
              have hsn := (HGa.out.on ((Grew.refl _).alloc (.cells #[.slice X2 m2 k2, .slice F1 M.length f1, .slice N1 ns.length k1] 82))).snoc (x := ns) (cs := [.slice X2 m2 k2, .slice F1 M.length f1, .slice N1 ns.length k1]) ⟨⟨X2, m2, k2⟩, ⟨F1, M.length, f1⟩, N1, k1, rfl, ((TRow.own HD8.out.own).low (Nat.le_trans HG.out.grew.size HD8.out.low.2.2)).grew ((Grew.refl _).alloc _)⟩ (by rw [needsA_len]; exact HO10.out) (by rw [needsA_len]; exact HQ10.out)
              have HS10 := Lib.hid hsn
              clear hsn
              exact ⟨⟨t + 1, A10, c10, _, by omega, by go_num, rfl, by rw [HNd.out]; exact HS10.out⟩, by simp only [intOf]; first | omega | (have := HT0.out; omega)⟩
    · obtain rfl : t = cnt := by omega
      have HO := Lib.hid (own_le HG.out.own HG0.out.size)
      have HRw := Lib.hid (HG.out.rows.map fun _ _ hx => hx.impI fun _ _ hm => hm.low HG0.out.size)
      clear HScan HLate HDr RF HRi
      go_wp2
      go_ret
      exact ⟨A1, c1, css, by rw [needsA_len]; rfl, HG0.out.trans HG.out.grew, HO.out, HRw.out⟩
end Go.Proofs.Ytoaciliojdaoaaa

/- Layers 16 and 31: a query's tables behind the core; what holds of each filter that there may be. No condition. -/
namespace Go.Proofs.Ytoaciliojdaoaaa
open Go.RowKit

theorem n31_scan (sr : List Fr) (wh : Ex) : (normX sr wh).scan.length = coreN sr := nS_len _ _
theorem n31_late (sr : List Fr) (wh : Ex) : (normX sr wh).late.length = sr.length - coreN sr := latesX_len _ _ _
theorem n31_sum (sr : List Fr) (wh : Ex) : (normX sr wh).scan.length + (normX sr wh).late.length = sr.length := by
  rw [n31_scan, n31_late]
  have := coreN_le sr
  omega
theorem n31_keys {sr : List Fr} (wh : Ex) (hn : ∀ f ∈ sr, f.on.nodes ≤ 200) : ∀ x ∈ (normX sr wh).late, x.keys.length ≤ 200 := by
  intro y hm
  change y ∈ latesX _ _ _ at hm
  obtain ⟨i, hi, rfl⟩ := List.mem_map.1 hm
  have hi' : coreN sr + i < sr.length := by have := List.mem_range.1 hi; omega
  have hfr := hn _ (List.getElem_mem hi')
  have e : sr.getD (coreN sr + i) default = sr[coreN sr + i] := by simp [List.getD, hi']
  rw [e]
  show (ltK _ _).length ≤ _
  unfold ltK
  rw [List.length_map]
  have h1 := List.length_filter_le (isK ((coreN sr + i : Nat) : Int)) (partsX sr[coreN sr + i].on)
  have h2 := partsX_len sr[coreN sr + i].on
  omega
theorem n31_join {sr : List Fr} (wh : Ex) {f : Nat} (h1 : (normX sr wh).scan.length ≤ f) (h2 : f < sr.length) : (jsI (normX sr wh).late).getD ((f : Int) - ((normX sr wh).scan.length : Int)).toNat 0 = sr[f].join := by
  rw [n31_scan] at h1 ⊢
  have e : ((f : Int) - (coreN sr : Int)).toNat = f - coreN sr := by omega
  rw [e]
  show (jsI (latesX sr (coreN sr) (sr.length - coreN sr))).getD (f - coreN sr) 0 = _
  unfold jsI latesX
  have hi : f - coreN sr < sr.length - coreN sr := by omega
  have e2 : coreN sr + (f - coreN sr) = f := by omega
  simp [List.getD, hi, e2, h2, lateX]
theorem betP_len {cl : Int → Int → Int} {n : Nat} {l : List La} {f t : Int} (hk : ∀ x ∈ l, x.keys.length ≤ 3000) : (betP cl n l f t).length ≤ 3000 := by
  have hg : ∀ i : Nat, (l.getD i default).keys.length ≤ 3000 := fun i => by
    by_cases h : i < l.length
    · have e : l.getD i default = l[i] := by simp [List.getD, h]
      rw [e]
      exact hk _ (List.getElem_mem h)
    · have e : l.getD i default = default := by simp [List.getD, h]
      rw [e]
      show ([] : List Ed).length ≤ 3000
      decide
  unfold betP
  split
  · exact Nat.le_trans (keyP_len _ _ _ _) (hg _)
  · split
    · rw [List.length_map]
      exact Nat.le_trans (keyP_len _ _ _ _) (hg _)
    · split
      · exact Nat.le_trans (coreP_len _ _ _ _) (by decide)
      · simp
/-- What the law asks of each filter. -/
structure GoodF (n : Nat) (l : List La) (order : List Int) (v : Fv) : Prop where
  ends : ∃ f t : Nat, v.f = f ∧ v.t = t ∧ f < n + l.length ∧ t < n + l.length ∧ rankI n (jsI l) order t < rankI n (jsI l) order f ∧ order.head? ≠ some (f : Int) ∧ (n ≤ f → (jsI l).getD ((f : Int) - (n : Int)).toNat 0 ≠ 2 ∧ (jsI l).getD ((f : Int) - (n : Int)).toNat 0 ≠ 4)
  some : 0 < v.a.length
  same : v.a.length = v.b.length
  few : v.a.length ≤ 3000
theorem good31 {cl : Int → Int → Int} {n : Nat} {l : List La} {order : List Int} (hk : ∀ x ∈ l, x.keys.length ≤ 3000) : ∀ v ∈ (allI cl n l order).map fvF, GoodF n l order v := by
  intro v hv
  obtain ⟨x, hx, rfl⟩ := List.mem_map.1 hv
  obtain ⟨f, t, e1, e2, h1, h2, h3, h4, h5, h6, h7⟩ := allI_mem hx
  refine ⟨⟨f, t, e1, e2, h1, h2, by rw [← e1, ← e2]; exact h4, by rw [← e1]; exact h5, fun hnf => ?_⟩, ?_, ?_, ?_⟩
  · have := allI_join hx (by rw [e1]; omega)
    rw [e1] at this
    exact this
  · show 0 < (lcP x.cols).length
    rw [lcP_len]
    exact List.length_pos_iff.2 h7
  · show (lcP x.cols).length = (rcP x.cols).length
    rw [lcP_len, rcP_len]
  · show (lcP x.cols).length ≤ 3000
    rw [lcP_len, h6]
    exact betP_len hk
theorem all31_len {cl : Int → Int → Int} {n : Nat} {l : List La} {order : List Int} (hM : n + l.length ≤ 1000) : ((allI cl n l order).map fvF).length ≤ 1001000 := by
  rw [List.length_map]
  have h1 := flsI_len (cl := cl) (core := n) (late := l) (order := order) (n + l.length)
  have h2 : (n + l.length) * (n + l.length) ≤ 1000 * 1000 := Nat.mul_le_mul hM hM
  unfold allI
  omega
end Go.Proofs.Ytoaciliojdaoaaa

/- Layer 32: a plan while it is put together: what stays. No condition. -/
namespace Go.Proofs.Ytoaciliojdaoaaa
open Go.RowKit

/-- A row of one's own lies in no block of another type. -/
theorem own_notblk {w : World} {base size n g : Nat} {e t : TypeId} {v : Value} {xs : List Value} {cs : Array Value} (ho : w.ownsRow base e size v n xs) (hb : Blok w g t cs) (hne : e ≠ t) : ∀ i, v.ownBlock = some i → i ≠ g := by
  intro i hi he
  subst he
  rcases ho.2 with ⟨h1, _⟩ | ⟨q, cap, cur, h1, _, hh, _⟩
  · rw [h1] at hi
    cases hi
  · rw [h1] at hi
    cases hi
    unfold Blok at hb
    rw [hb] at hh
    injection hh with hh
    injection hh with _ h2 _
    exact hne h2.symm
theorem neIPl : 3 ≠ 51 := by decide
theorem neFPl : 43 ≠ 51 := by decide
theorem nePPl : 95 ≠ 51 := by decide
theorem nePNm : 95 ≠ 37 := by decide
theorem neIPr : 3 ≠ 95 := by decide
theorem nePrF : 95 ≠ 43 := by decide
theorem neFPr : 43 ≠ 95 := by decide
theorem GatF.cell {u w : World} {L : List Fv} {A : Option Addr} {c : Nat} {css : List (List Value)} {bp : Nat} {t : TypeId} {cs : Array Value} (h : GatF u L A c css w) (hb : Blok w bp t cs) (hi : 3 ≠ t) (hf : ∀ i, (Value.slice A L.length c).ownBlock = some i → i ≠ bp) (hlow : u.heap.size ≤ bp) (i : Nat) (x : Value) : GatF u L A c css (w.setCell ⟨bp, i, none⟩ x) :=
  ⟨h.grew.setCell hlow _, own_same h.own fun j hj => heap_set _ _ (fun e => hf j hj e), h.rows.map fun _ _ hx => hx.impI fun _ _ hm => hm.imp id fun ht => ht.apart ((Turns.refl w bp).set i x) hb hi⟩
/-- Another row grows. -/
theorem GatF.aside {u w w' : World} {L : List Fv} {A : Option Addr} {c : Nat} {css : List (List Value)} {base size n : Nat} {e : TypeId} {v : Value} {xs : List Value} (h : GatF u L A c css w) (ho : w.ownsRow base e size v n xs) (hi : 3 ≠ e) (hf : 43 ≠ e) (hu : u.heap.size ≤ base) (k : w.grownBy w' v.ownBlock) : GatF u L A c css w' :=
  ⟨h.grew.grown k fun i hi => Nat.le_trans hu (own_base ho i hi), own_grown h.own k (fun i hi' e => type_apart h.own ho hf i hi' e.symm), h.rows.map fun _ _ hx => hx.impI fun _ _ hm => hm.imp id fun ht => ht.grown ho hi k⟩
/-- A plan while it is put together: its order, the filters that are kept, and probes of which nothing is said. -/
structure OfS (u : World) (bp : Nat) (tl : List Int) (O : Option Addr) (o : Nat) (K : List Fv) (F : Option Addr) (f : Nat) (css : List (List Value)) (v2 v3 : Value) (P : Option Addr) (m p : Nat) (vw : Value) (w : World) : Prop where
  plan : Blok w bp 51 #[.slice O tl.length o, .slice F K.length f, v2, v3, .slice P m p, vw]
  ord : w.ownsRow u.heap.size 3 1 (.slice O tl.length o) tl.length (iV tl)
  gat : GatF u K F f css w
  prb : ∃ xs, w.ownsRow u.heap.size 95 4 (.slice P m p) m xs
  low : u.heap.size ≤ bp
section
variable {u w w' : World} {bp : Nat} {tl : List Int} {O : Option Addr} {o : Nat} {K : List Fv} {F : Option Addr} {f : Nat} {css : List (List Value)} {v2 v3 : Value} {P : Option Addr} {m p : Nat} {vw : Value}
theorem OfS.on (s : OfS u bp tl O o K F f css v2 v3 P m p vw w) (g : Grew w w') : OfS u bp tl O o K F f css v2 v3 P m p vw w' := by
  obtain ⟨xs, hx⟩ := s.prb
  exact ⟨s.plan.grew g, own_grewE s.ord g, s.gat.on g, ⟨xs, own_grewE hx g⟩, s.low⟩
/-- The first conditions are put there. -/
theorem OfS.first (s : OfS u bp tl O o K F f css v2 v3 P m p vw w) (x : Value) : OfS u bp tl O o K F f css v2 x P m p vw (w.setCell ⟨bp, 3, none⟩ x) := by
  obtain ⟨xs, hx⟩ := s.prb
  refine ⟨?_, own_same s.ord fun j hj => heap_set _ _ (fun e => own_notblk s.ord s.plan neIPl j hj e), s.gat.cell s.plan neIPl (own_notblk s.gat.own s.plan neFPl) s.low 3 x, ⟨xs, own_same hx fun j hj => heap_set _ _ (fun e => own_notblk hx s.plan nePPl j hj e)⟩, s.low⟩
  have := s.plan.set 3 x
  simpa using this
/-- A block of another's own is written. -/
theorem OfS.far (s : OfS u bp tl O o K F f css v2 v3 P m p vw w) {g : Nat} {t : TypeId} {cs : Array Value} (hb : Blok w g t cs) (hi : 3 ≠ t) (hp : 95 ≠ t) (hg : bp ≠ g) (hu : u.heap.size ≤ g) (hF : ∀ i, (Value.slice F K.length f).ownBlock = some i → i ≠ g) (i : Nat) (x : Value) : OfS u bp tl O o K F f css v2 v3 P m p vw (w.setCell ⟨g, i, none⟩ x) := by
  obtain ⟨xs, hx⟩ := s.prb
  exact ⟨s.plan.far hg _, own_same s.ord fun j hj => heap_set _ _ (fun e => own_notblk s.ord hb hi j hj e), s.gat.cell hb hi hF hu i x, ⟨xs, own_same hx fun j hj => heap_set _ _ (fun e => own_notblk hx hb hp j hj e)⟩, s.low⟩
/-- A filter is appended, and the row put there. -/
theorem OfS.keep (s : OfS u bp tl O o K F f css v2 v3 P m p vw w) {x : Fv} {cs : List Value} {F' : Option Addr} {f' : Nat} (hx : FvR (MRow u w) x cs) (ho : w'.ownsRow u.heap.size 43 4 (.slice F' (K.length + 1) f') (K.length + 1) (css.flatten ++ cs)) (hb : w.grownBy w' (Value.slice F K.length f).ownBlock) :
    OfS u bp tl O o (K ++ [x]) F' f' (css ++ [cs]) v2 v3 P m p vw (w'.setCell ⟨bp, 1, none⟩ (.slice F' (K.length + 1) f')) := by
  obtain ⟨xs, hq⟩ := s.prb
  have e3 : (K ++ [x]).length = K.length + 1 := by simp
  have hg := s.gat.snoc hx ho hb
  have hp : Blok w' bp 51 #[.slice O tl.length o, .slice F K.length f, v2, v3, .slice P m p, vw] := s.plan.grown hb fun e => own_notblk s.gat.own s.plan neFPl bp e rfl
  have h1 := own_grown s.ord hb (fun i hi e => type_apart s.ord s.gat.own neIF i hi e.symm)
  have h2 := own_grown hq hb (fun i hi e => type_apart hq s.gat.own (Ne.symm neFPr) i hi e.symm)
  refine ⟨?_, own_same h1 fun j hj => heap_set _ _ (fun e => own_notblk h1 hp neIPl j hj e), hg.cell hp neIPl (own_notblk hg.own hp neFPl) s.low 1 _, ⟨xs, own_same h2 fun j hj => heap_set _ _ (fun e => own_notblk h2 hp nePPl j hj e)⟩, s.low⟩
  have := hp.set 1 (.slice F' (K.length + 1) f')
  rw [e3]
  simpa using this
/-- A probe is appended, and the row put there. -/
theorem OfS.probe (s : OfS u bp tl O o K F f css v2 v3 P m p vw w) {xs ys : List Value} {P' : Option Addr} {p' : Nat} (hq : w.ownsRow u.heap.size 95 4 (.slice P m p) m xs) (ho : w'.ownsRow u.heap.size 95 4 (.slice P' (m + 1) p') (m + 1) ys) (hb : w.grownBy w' (Value.slice P m p).ownBlock) :
    OfS u bp tl O o K F f css v2 v3 P' (m + 1) p' vw (w'.setCell ⟨bp, 4, none⟩ (.slice P' (m + 1) p')) := by
  have hp : Blok w' bp 51 #[.slice O tl.length o, .slice F K.length f, v2, v3, .slice P m p, vw] := s.plan.grown hb fun e => own_notblk hq s.plan nePPl bp e rfl
  have h1 := own_grown s.ord hb (fun i hi e => type_apart s.ord hq neIPr i hi e.symm)
  have hg := s.gat.aside hq neIPr neFPr (Nat.le_refl _) hb
  refine ⟨?_, own_same h1 fun j hj => heap_set _ _ (fun e => own_notblk h1 hp neIPl j hj e), hg.cell hp neIPl (own_notblk hg.own hp neFPl) s.low 4 _, ⟨ys, own_same ho fun j hj => heap_set _ _ (fun e => own_notblk ho hp nePPl j hj e)⟩, s.low⟩
  have := hp.set 4 (.slice P' (m + 1) p')
  simpa using this
end
theorem infoPb : (Try.prog.info? 95).map (fun i => (i.zero, i.size, i.bytes)) = some (some (.agg #[.int .i64 0, .int .i64 0, .slice none 0 0, .slice none 0 0]), 4, 64) := by kernel_rfl
theorem FvR.impI' {R R' : Rw} {x : Fv} {cs : List Value} (h : FvR R x cs) (H : ∀ A (l : List Int), R 3 A (iV l) → R' 3 A (iV l)) : FvR R' x cs := by
  obtain ⟨A, k, B, j, e, h1, h2⟩ := h
  exact ⟨A, k, B, j, e, H _ _ h1, H _ _ h2⟩
theorem turns_far {w w' : World} {g : Nat} (h : Turns w w' g) {p : Addr} (hp : w.heap.size ≤ p.block) (v : Value) : Turns w (w'.setCell p v) g :=
  ⟨h.os, h.tape, h.output, by rw [World.size_setCell]; exact h.size, fun k hk hn => by rw [heap_set _ _ (fun e => by omega)]; exact h.block k hk hn⟩
/-- A number lies in no block that holds slices alone. -/
theorem int_off {w : World} {b : Nat} {t : TypeId} {cs : Array Value} {A : Option Addr} {p : Int} {rest : List Value} (h : Row w A (.int .i64 p :: rest)) (hb : Blok w b t cs) (hs : ∀ (k : Nat) (v : Value), cs[k]? = some v → ∃ X n c, v = .slice X n c) : ∀ a, A = some a → a.block ≠ b := by
  intro a ha e
  obtain ⟨b', o, hA, _, hc⟩ := h.at_ (k := 0) (by simp)
  rw [ha] at hA
  cases hA
  simp only at e
  subst e
  rw [hb.cell (o + 0)] at hc
  obtain ⟨X, n, c, e⟩ := hs _ _ hc
  cases e
theorem ints_past {w w' : World} {b : Nat} {t : TypeId} {cs : Array Value} {A : Option Addr} {l : List Int} (h : Row w A (iV l)) (hb : Blok w b t cs) (hs : ∀ (k : Nat) (v : Value), cs[k]? = some v → ∃ X n c, v = .slice X n c) (k : Turns w w' b) : Row w' A (iV l) := by
  rcases l with _ | ⟨a, l⟩
  · exact Or.inl rfl
  · exact Row.turns h k (int_off (p := a) (rest := iV l) h hb hs)
theorem fvs_past {w w' : World} {b : Nat} {t : TypeId} {cs : Array Value} {A : Option Addr} {L : List Fv} (h : FvsR (PRow w) A L) (hb : Blok w b t cs) (hs : ∀ (k : Nat) (v : Value), cs[k]? = some v → ∃ X n c, v = .slice X n c) (k : Turns w w' b) : FvsR (PRow w') A L := by
  obtain ⟨css, h1, h2⟩ := h
  refine ⟨css, h1.map fun x ds hx => FvR.impI' hx fun _ _ hr => ints_past hr hb hs k, ?_⟩
  rcases L with _ | ⟨e, L⟩
  · have : css = [] := by have := h1.1; simpa using this
    subst this
    exact Or.inl rfl
  · rcases css with _ | ⟨ds, css⟩
    · have := h1.1; simp at this
    · obtain ⟨hx, _⟩ := h1.2 0 e ds rfl rfl
      obtain ⟨A', ka, B, j, rfl, _⟩ := hx
      exact Row.turns h2 k (int_off (p := e.f) (rest := _) h2 hb hs)
theorem six_slices {A0 A1 A2 A3 A4 A5 : Option Addr} {n0 n1 n2 n3 n4 n5 c0 c1 c2 c3 c4 c5 : Nat} : ∀ (k : Nat) (v : Value), (#[Value.slice A0 n0 c0, .slice A1 n1 c1, .slice A2 n2 c2, .slice A3 n3 c3, .slice A4 n4 c4, .slice A5 n5 c5])[k]? = some v → ∃ X n c, v = .slice X n c := by
  intro k v h
  rcases k with _ | _ | _ | _ | _ | _ | k <;> simp at h
  all_goals exact ⟨_, _, _, h.symm⟩
attribute [local go_sem] more_cell more_frozen more_more more_setCell more_of_drew more_of_drewN lt_more le_more past_cell past_cell2 past_frozen past_frozen2 past_setCell past_setCell2 mid_cell mid_frozen mid_setCell
attribute [local go_sem ↓] Go.wp_at_zero Go.wp_at_succ
@[local go_sem] theorem eql_nilEd (w : World) (a : Option Addr) (n c : Nat) : (binOp .eql 34 (.slice a n c) (.slice none 0 0)).run Try.prog w = .ok (.bool a.isNone) w := Lib.run_eql_slice_nil w _ _ a n c 0 0 Try.underlying34
set_option maxHeartbeats 2000000 in
set_option maxRecDepth 100000 in
theorem clone_edP (l : List Ed) (A : Option Addr) (k : Nat) (hl : l.length ≤ 1000000) (w : World) (ra : EdsR (PRow w) A l) : Calls Try.prog 44 #[.slice A l.length k] w (CloF w) := by
  cases A with
  | none =>
    have h0 : l = [] := by
      rcases l with _ | ⟨e, l⟩
      · rfl
      · obtain ⟨b, o, h, _⟩ := edsR_at ra (i := 0) (by simp)
        cases h
    subst h0
    clear ra
    go_enter Try.func44, Try.ntmps44
    go_wp2
    go_ret
    exact ⟨none, 0, 0, rfl, by (show Grew _ _; repeat (first | exact Grew.refl _ | refine Grew.alloc ?_ _ | refine Grew.drew ?_ | refine Grew.more ?_ _))⟩
  | some a =>
    obtain ⟨css, h1, h2⟩ := ra
    have HR := Lib.hid h2
    have hfl := h1.flat
    have HOne : Hid (∀ u ∈ css.flatten, u.oneCell' = true) := Lib.hid (by
      intro u hu
      obtain ⟨cs, hcs, hu⟩ := List.mem_flatten.1 hu
      obtain ⟨i, hi, rfl⟩ := List.getElem_of_mem hcs
      obtain ⟨hx, _⟩ := h1.2 i (l[i]'(by rw [← h1.1]; exact hi)) _ (List.getElem?_eq_getElem _) (List.getElem?_eq_getElem hi)
      have hx' : css[i] = _ := hx
      rw [hx'] at hu
      simp at hu
      rcases hu with rfl | rfl | rfl | rfl <;> rfl)
    clear h1 h2
    go_enter Try.func44, Try.ntmps44
    go_wp2_with (at_builtin; refine wpList_appB rfl (.tmp 5) (.tmp 6) 34 68 4 rfl w.heap.size (.agg #[.int .i64 0, .int .i64 0, .int .i64 0, .int .i64 0]) 32 Try.underlying34 infoEd rfl (by decide) (by decide) _ 0 [] rfl (own_empty _ _ _ _ _ rfl (Nat.le_refl _)) (some a) l.length k css.flatten rfl hfl (Row.grew HR.out ((Grew.refl w).alloc _)) HOne.out (by omega) (by rw [World.size_alloc]; omega) ?_)
    intro A2 c2 w2 ho2 hg2
    have HG := Lib.hid (((Grew.refl w).alloc _).grown hg2 (own_base (own_empty w w.heap.size 68 4 w.heap.size rfl (Nat.le_refl _))))
    clear ho2 hg2 HR HOne
    go_wp2
    go_ret
    exact ⟨A2, _, c2, rfl, HG.out⟩
end Go.Proofs.Ytoaciliojdaoaaa

/- Layer 32: the plan of any query, in any order, with any filters, by the program: its order, and what its pipes need. Condition: conditions that lie in memory that is there; few of them. -/
namespace Go.Proofs.Ytoaciliojdaoaaa
open Go.RowKit
attribute [local go_sem] more_cell more_frozen more_more more_setCell more_of_drew more_of_drewN lt_more le_more past_cell past_cell2 past_frozen past_frozen2 past_setCell past_setCell2 mid_cell mid_frozen mid_setCell
attribute [local go_sem ↓] Go.wp_at_zero Go.wp_at_succ

/-- The order that is taken; the filters that are kept. -/
def tabsP (n : Nat) (order : List Int) : List Int := if rightP n order then order else risI n
theorem tabsP_len (n : Nat) (order : List Int) : (tabsP n order).length = n := by
  unfold tabsP
  split
  · rename_i h; exact h.2
  · exact risI_len n
def keptP (all fs : List Fv) : List Fv := fs.filter fun x => all.any (sameFv x)
section
variable {P : Program} {ops : Array Oper} {Q : Exit → Act → World → Prop} {wc : World} {S : World → Prop}
/-- Two operations are ready. -/
theorem held_bothP (i j : Nat) {oi oj : Oper} {fuel : Nat} {listed : Array Bool} {a : Act} (hr : Region.ready .any ops listed = [i, j]) (hoi : ops[i]? = some oi) (hoj : ops[j]? = some oj) (hwi : Region.wanted oi (yielded ops a.tmps) = true) (hwj : Region.wanted oj (yielded ops a.tmps) = true)
    (hi : ∀ K' : Act → World → Prop, Hid (∀ a W, S W → wpAnyH P .any ops Q S fuel (listed.setIfInBounds i true) a W → K' a W) → Oper.wp P oi a wc K' Q)
    (hj : ∀ K' : Act → World → Prop, Hid (∀ a W, S W → wpAnyH P .any ops Q S fuel (listed.setIfInBounds j true) a W → K' a W) → Oper.wp P oj a wc K' Q) : wpAnyH P .any ops Q S (fuel + 1) listed a wc := by
  refine wpAnyH_ready hr (by simp) (AllReadyH.cons hoi (fun K' hK => ?_) (AllReadyH.cons hoj (fun K' hK => ?_) AllReadyH.nil))
  · rw [if_pos hwi]
    exact hi K' (Lib.hid fun a W hG hW => hK.out a W hG (fun _ => hW))
  · rw [if_pos hwj]
    exact hj K' (Lib.hid fun a W hG hW => hK.out a W hG (fun _ => hW))
end
theorem plan_set6 {u w : World} (h : Grew u w) {g : Nat} (hg : u.heap.size ≤ g) (b0 b1 b2 b3 b4 b5 : Value) : Grew u ((((((w.setCell ⟨g, 0, none⟩ b0).setCell ⟨g, 1, none⟩ b1).setCell ⟨g, 2, none⟩ b2).setCell ⟨g, 3, none⟩ b3).setCell ⟨g, 4, none⟩ b4).setCell ⟨g, 5, none⟩ b5) :=
  Grew.setCell (Grew.setCell (Grew.setCell (Grew.setCell (Grew.setCell (Grew.setCell h hg _) hg _) hg _) hg _) hg _) hg _
theorem plan_blok6 {w : World} {g : Nat} {t : TypeId} {c0 c1 c2 c3 c4 c5 : Value} (h : Blok w g t #[c0, c1, c2, c3, c4, c5]) (b0 b1 b2 b3 b4 b5 : Value) : Blok ((((((w.setCell ⟨g, 0, none⟩ b0).setCell ⟨g, 1, none⟩ b1).setCell ⟨g, 2, none⟩ b2).setCell ⟨g, 3, none⟩ b3).setCell ⟨g, 4, none⟩ b4).setCell ⟨g, 5, none⟩ b5) g t #[b0, b1, b2, b3, b4, b5] := by
  have := (((((h.set 0 b0).set 1 b1).set 2 b2).set 3 b3).set 4 b4).set 5 b5
  simpa using this
theorem own_set6 {w : World} {g base size n : Nat} {e : TypeId} {v : Value} {xs : List Value} (h : w.ownsRow base e size v n xs) (hg : ∀ i, v.ownBlock = some i → i ≠ g) (b0 b1 b2 b3 b4 b5 : Value) : ((((((w.setCell ⟨g, 0, none⟩ b0).setCell ⟨g, 1, none⟩ b1).setCell ⟨g, 2, none⟩ b2).setCell ⟨g, 3, none⟩ b3).setCell ⟨g, 4, none⟩ b4).setCell ⟨g, 5, none⟩ b5).ownsRow base e size v n xs := by
  have f : ∀ {w' : World} {p : Nat} {u : Value}, w'.ownsRow base e size v n xs → (w'.setCell ⟨g, p, none⟩ u).ownsRow base e size v n xs := fun h => own_same h fun i hi => heap_set _ _ (fun e => hg i hi e)
  exact f (f (f (f (f (f h)))))
/-- The plan's block behind its making. -/
def MadP (u : World) (tl : List Int) (v : Value) (wx : World) : Prop := ∃ (bp : Nat) (O : Option Addr) (o : Nat) (vw : Value), v = .pointer (some ⟨bp, 0, none⟩) ∧ u.heap.size ≤ bp ∧ Grew u wx ∧ wx.ownsRow u.heap.size 3 1 (.slice O tl.length o) tl.length (iV tl) ∧ (∀ i, (Value.slice O tl.length o).ownBlock = some i → i ≠ bp) ∧ (∃ X x y, vw = .slice X x y) ∧ Blok wx bp 51 #[.slice O tl.length o, .slice none 0 0, .slice none 0 0, .slice none 0 0, .slice none 0 0, vw]
theorem iV_appE' (a b : List Int) : iV a ++ iV b = iV (a ++ b) := by simp [iV]
theorem keptP_take {AL fs : List Fv} {q : Nat} (h : q < fs.length) : keptP AL (fs.take (q + 1)) = keptP AL (fs.take q) ++ if AL.any (sameFv fs[q]) then [fs[q]] else [] := by
  unfold keptP
  rw [filter_take _ h]
theorem keptP_len (AL fs : List Fv) : (keptP AL fs).length ≤ fs.length := List.length_filter_le _ _
theorem l5_in {w : World} {g : Nat} {a0 a1 a2 a3 a4 : Value} (h : Blok w g 72 #[a0, a1, a2, a3, a4]) : g < w.heap.size ∧ w.cell? ⟨g, 0, none⟩ = some a0 ∧ w.cell? ⟨g, 1, none⟩ = some a1 ∧ w.cell? ⟨g, 2, none⟩ = some a2 ∧ w.cell? ⟨g, 3, none⟩ = some a3 ∧ w.cell? ⟨g, 4, none⟩ = some a4 :=
  ⟨h.lt, h.cell 0, h.cell 1, h.cell 2, h.cell 3, h.cell 4⟩
theorem nePLa : 95 ≠ 72 := by decide
theorem nePiPl : 82 ≠ 51 := by decide
theorem pips_apart {w w' : World} {b B : Nat} {t : TypeId} {cs : Array Value} {X : Option Addr} {nd : List (List Int)} {css : List (List Value)} (hl : ListR (PipR (TRow B w)) 3 nd css) (ho : TRow B w 82 X css.flatten) (k : Turns w w' b) (hb : Blok w b t cs) (h1 : 3 ≠ t) (h2 : 82 ≠ t) : ListR (PipR (TRow B w')) 3 nd css ∧ TRow B w' 82 X css.flatten :=
  ⟨hl.map fun x ds hx => by obtain ⟨s, t', B', k', e, h⟩ := hx; exact ⟨s, t', B', k', e, h.apart k hb h1⟩, ho.apart k hb h2⟩
theorem turns6 (w : World) (g : Nat) (b0 b1 b2 b3 b4 b5 : Value) : Turns w ((((((w.setCell ⟨g, 0, none⟩ b0).setCell ⟨g, 1, none⟩ b1).setCell ⟨g, 2, none⟩ b2).setCell ⟨g, 3, none⟩ b3).setCell ⟨g, 4, none⟩ b4).setCell ⟨g, 5, none⟩ b5) g :=
  ((((((Turns.refl w g).set 0 b0).set 1 b1).set 2 b2).set 3 b3).set 4 b4).set 5 b5
def PlaF (w : World) (tl : List Int) (nd : List (List Int)) (e : Ending) (w' : World) : Prop := ∃ (O : Option Addr) (o : Nat) (p1 p3 p4 p5 : Osl) (A : Option Addr) (k : Nat), e = .returned (plV ⟨⟨O, tl.length, o⟩, p1, p3, p4, p5⟩ A nd.length k) ∧ Grew w w' ∧ PipsR w' A nd ∧ Row w' O (iV tl)
def LatO (u : World) (bp : Nat) (tl : List Int) (O : Option Addr) (o : Nat) (K : List Fv) (F : Option Addr) (f : Nat) (css : List (List Value)) (v3 vw : Value) (n : Nat) (i : Value) (wr : World) : Prop := ∃ (q m : Nat) (P : Option Addr) (p : Nat), q ≤ n ∧ m ≤ tl.length + q ∧ i = .int .i64 q ∧ OfS u bp tl O o K F f css (.slice none 0 0) v3 P m p vw wr
def TabO (u : World) (bp : Nat) (tl : List Int) (O : Option Addr) (o : Nat) (K : List Fv) (F : Option Addr) (f : Nat) (css : List (List Value)) (vw i : Value) (wr : World) : Prop := ∃ (q m : Nat) (P : Option Addr) (p : Nat) (X : Option Addr) (n c : Nat), q ≤ tl.length ∧ m ≤ q ∧ i = .int .i64 q ∧ OfS u bp tl O o K F f css (.slice none 0 0) (.slice X n c) P m p vw wr
def FilO (u v : World) (bp : Nat) (tl : List Int) (O : Option Addr) (o : Nat) (AL fs : List Fv) (vw i : Value) (wr : World) : Prop := ∃ (q : Nat) (F : Option Addr) (f : Nat) (css : List (List Value)), q ≤ fs.length ∧ i = .int .i64 q ∧ OfS u bp tl O o (keptP AL (fs.take q)) F f css (.slice none 0 0) (.slice none 0 0) none 0 0 vw wr ∧ Turns v wr bp ∧ ∀ i, (Value.slice F (keptP AL (fs.take q)).length f).ownBlock = some i → v.heap.size ≤ i
set_option maxHeartbeats 16000000 in
set_option maxRecDepth 100000 in
theorem pof_any (core : Int) (sc : List (List Ex)) (es : List Ed) (rs : List Ex) (l : List La) (wh : List Ex) (order : List Int) (fs : List Fv) (S : Option Addr) (ks : Nat) (Fa : Option Addr) (fk : Nat) (A : Option Addr) (k : Nat) (B : Option Addr) (j : Nat) (C : Option Addr) (c : Nat) (D : Option Addr) (d : Nat) (E : Option Addr) (en : Nat) (w : World)
    (hM : sc.length + l.length ≤ 1000) (hfs : fs.length ≤ 1000) (hes : es.length ≤ 3000) (hks : ∀ x ∈ l, x.keys.length ≤ 3000) (ho : order.length ≤ 1000000) (hcap : order.length ≤ ks) (hrs : rs.length ≤ 100000) (hxs : ∀ x ∈ rs, x.nodes ≤ 1000000) (hwh : wh.length ≤ 1000000) (hsc : ∀ x ∈ sc, x.length ≤ 1000000) (hls : ∀ x ∈ l, x.scan.length ≤ 1000000) (hlr : ∀ x ∈ l, x.rest.length ≤ 1000000)
    (rA : XllR (PRow w) A sc) (rB : EdsR (PRow w) B es) (rC : ExsR (PRow w) C rs) (rD : LasR (PRow w) D l) (rE : ExsR (PRow w) E wh) (rS : Row w S (iV order)) (rF : FvsR (PRow w) Fa fs) :
    Calls Try.prog 14 #[.agg #[.int .i64 core, .slice A sc.length k, .slice B es.length j, .slice C rs.length c, .slice D l.length d, .slice E wh.length en], .slice S order.length ks, .slice Fa fs.length fk] w (PlaF w (tabsP sc.length order) (needsA (keptP ((allI (clI (clsE es)) sc.length l (tabsP sc.length order)).map fvF) fs) (tabsP sc.length order) (sc.length + l.length) (sc.length + l.length))) := by
  obtain ⟨W0, hW0⟩ : ∃ W0, W0 = (w.alloc (.cells #[.int .i64 core, .slice A sc.length k, .slice B es.length j, .slice C rs.length c, .slice D l.length d, .slice E wh.length en] 37)).alloc (.cells #[.slice none 0 0, .slice none 0 0, .slice none 0 0, .slice none 0 0, .slice none 0 0, .slice none 0 0] 51) := ⟨_, rfl⟩
  have HG0 : Hid (Grew w W0) := Lib.hid (by rw [hW0]; exact ((Grew.refl w).alloc _).alloc _)
  have HX0 : Hid (Blok W0 w.heap.size 37 #[.int .i64 core, .slice A sc.length k, .slice B es.length j, .slice C rs.length c, .slice D l.length d, .slice E wh.length en]) := Lib.hid (by rw [hW0]; exact (Blok.new _ _ _ _ rfl).alloc _)
  have HR0 : Hid (Blok W0 (w.heap.size + 1) 51 #[.slice none 0 0, .slice none 0 0, .slice none 0 0, .slice none 0 0, .slice none 0 0, .slice none 0 0]) := Lib.hid (by rw [hW0]; exact Blok.new _ _ _ _ (by simp))
  have HRt : Hid (∀ W, Grew w W → Gives Try.prog 35 #[.agg #[.int .i64 core, .slice A sc.length k, .slice B es.length j, .slice C rs.length c, .slice D l.length d, .slice E wh.length en], .slice S order.length ks] W (.bool (decide (rightP sc.length order)))) := Lib.hid fun W hW => right_any ⟨core, sc, es, rs, l, wh⟩ (by show sc.length ≤ 1000; omega) order ho S ks A k B j C c D d E en W (rS.grew hW)
  have HRi : Hid (∀ W, Calls Try.prog 36 #[.int .i64 sc.length] W (OwnI W (risI sc.length))) := Lib.hid fun W => lrising_any _ (by omega) W
  have RS := Lib.hid (rS.grew HG0.out)
  have RE := Lib.hid (rE.grew HG0.out)
  obtain ⟨tl, htl⟩ : ∃ tl, tabsP sc.length order = tl := ⟨_, rfl⟩
  rw [htl]
  have htll : tl.length = sc.length := by rw [← htl]; exact tabsP_len _ _
  obtain ⟨nd, hnd⟩ : ∃ nd, needsA (keptP ((allI (clI (clsE es)) sc.length l tl).map fvF) fs) tl (sc.length + l.length) (sc.length + l.length) = nd := ⟨_, rfl⟩
  rw [hnd]
  have HNd := Lib.hid hnd
  clear hnd
  have HTl := Lib.hid htl
  have HTll := Lib.hid htll
  obtain ⟨ol, hol⟩ : ∃ ol, order.length = ol := ⟨_, rfl⟩
  rw [hol] at HRt ho hcap ⊢
  have HCp := Lib.hid hcap
  clear hcap
  have HOl := Lib.hid hol
  clear htl htll hol rS rE
  go_enter Try.func14, Try.ntmps14
  go_upto_region 1 with fail
  rw [← hW0]
  clear hW0
  have HBr2 : Hid (w.heap.size ≤ w.heap.size + 1) := Lib.hid (Nat.le_succ _)
  generalize w.heap.size + 1 = br at *
  obtain ⟨bx, hbx⟩ : ∃ bx, w.heap.size = bx := ⟨_, rfl⟩
  rw [hbx] at HX0 ⊢
  clear hbx
  obtain ⟨xl, x0, x1, x2, x3, x4, x5⟩ := nm_in HX0.out
  have hcc : (tl = order ∧ decide (rightP sc.length order) = true) ∨ (tl = risI sc.length ∧ decide (rightP sc.length order) = false) := by
    by_cases hr : rightP sc.length order
    · exact Or.inl ⟨by rw [← HTl.out]; exact if_pos hr, decide_eq_true hr⟩
    · exact Or.inr ⟨by rw [← HTl.out]; exact if_neg hr, decide_eq_false hr⟩
  have HCc := Lib.hid hcc
  clear hcc
  generalize decide (rightP sc.length order) = rb at *
  go_upto_if 19 with (go_at_call 35; (with_reducible refine (HRt.out _ HG0.out).grows.mono ?_); rintro e2 w2 ⟨rfl, hg2⟩; have HG2 := Lib.hid hg2; clear hg2)
  clear xl x0 x1 x2 x3 x4 x5
  obtain ⟨xl, x0, x1, x2, x3, x4, x5⟩ := nm_in (HX0.out.grew HG2.out)
  go_cut [1] (fun v wx => ∃ T kt, v = .slice T tl.length kt ∧ Grew W0 wx ∧ Row wx T (iV tl) ∧ tl.length ≤ kt)
  case first =>
    rcases HCc.out with ⟨ht, rfl⟩ | ⟨ht, rfl⟩
    · have HT2 : Hid (ol = tl.length) := Lib.hid (by rw [ht]; exact HOl.out.symm)
      have HT3 := Lib.hid ht
      clear ht
      go_wp2_with fail
      go_meet
      exact ⟨S, ks, by rw [HT2.out], HG2.out, by rw [HT3.out]; exact RS.out.grew HG2.out, by rw [← HT2.out]; exact HCp.out⟩
    · have HT3 := Lib.hid ht
      clear ht
      go_wp2_with (go_at_call 36; (with_reducible refine (HRi.out _).mono ?_); rintro e3 w3 ⟨A3, k3, rfl, hg3, ho3⟩; have HG3 := Lib.hid (HG2.out.trans hg3); have HR3 := Lib.hid (own_rowI ho3); have HC3 := Lib.hid (own_cap' ho3); clear hg3 ho3)
      go_meet
      exact ⟨A3, k3, by rw [HT3.out], HG3.out, by rw [HT3.out]; exact HR3.out, by rw [HT3.out]; exact HC3.out⟩
  case rest =>
    obtain ⟨T, kt, rfl, hgc, hrc, hcp⟩ := hcut
    obtain ⟨wk, rfl⟩ : ∃ wk : World, wk = wc := ⟨_, rfl⟩
    have HGc := Lib.hid hgc
    have HRc := Lib.hid hrc
    have HKt := Lib.hid hcp
    clear hcp hgc hrc xl x0 x1 x2 x3 x4 x5 HG2 HRt HRi HCc
    have HC1 : Hid (∀ W, Grew wk W → Calls Try.prog 37 #[.slice T tl.length kt] W (OwnI W tl)) := Lib.hid fun W hW => clone_ints tl (by rw [HTll.out]; omega) T kt W (HRc.out.grew hW)
    have HC2 : Hid (∀ W, Grew wk W → Calls Try.prog 38 #[.slice E wh.length en] W (CloF W)) := Lib.hid fun W hW => (clone_ex wh E en hwh W W (Grew.refl W) (RE.out.grew (HGc.out.trans hW))).mono fun e w' ⟨A2, k2, q1, q2, _⟩ => ⟨A2, _, k2, q1, q2⟩
    have HXc := Lib.hid (HX0.out.grew HGc.out)
    go_upto_region 3 with fail
    go_cut [7] (fun v wx => MadP wk tl v wx)
    case first =>
      have HGd := Lib.hid (show Grew wk wk.drew from (Grew.refl _).drew)
      refine wp_region_S (fun W => Grew wk W) (by kernel_rfl) ?_
      generalize wk.drew = wd at *
      refine held_take 0 (v := ?_) rfl (by kernel_rfl) (by kernel_rfl) (by kernel_rfl) (fun _ _ _ h => h) (by rfl) ?_ HGd.out ?_
      rotate_left
      · (intro W hW; obtain ⟨xl, x0, x1, x2, x3, x4, x5⟩ := nm_in (HXc.out.grew hW); go_simp; with_reducible rfl)
      refine held_take 2 (v := ?_) rfl (by kernel_rfl) (by kernel_rfl) (by kernel_rfl) (fun _ _ _ h => h) (by rfl) ?_ HGd.out ?_
      rotate_left
      · (intro W hW; obtain ⟨xl, x0, x1, x2, x3, x4, x5⟩ := nm_in (HXc.out.grew hW); go_simp; with_reducible rfl)
      refine held_take 3 (v := ?_) rfl (by kernel_rfl) (by kernel_rfl) (by kernel_rfl) (fun _ _ _ h => h) (by rfl) ?_ HGd.out ?_
      rotate_left
      · (intro W hW; obtain ⟨xl, x0, x1, x2, x3, x4, x5⟩ := nm_in (HXc.out.grew hW); go_simp; with_reducible rfl)
      refine held_norm (a' := ?_) ?_ ?_
      rotate_left
      · (go_simp; with_reducible rfl)
      refine held_bothP 1 6 (by kernel_rfl) rfl rfl (by rfl) (by rfl) (fun K hK => ?_) (fun K hK => ?_)
      · skip
        go_simp
        go_wp2_with fail
        refine (HC1.out wd HGd.out).mono ?_
        rintro e w1 ⟨O, o, rfl, hgx, hox⟩
        have HO1 := Lib.hid (own_le hox HGd.out.size)
        have HG1 := Lib.hid (HGd.out.trans hgx)
        go_wp2_with fail
        clear hgx hox
        refine hK.out _ _ HG1.out ?_
        clear hK K
        refine held_bothP 4 6 (by kernel_rfl) rfl rfl (by rfl) (by rfl) (fun K hK => ?_) (fun K hK => ?_)
        · skip
          go_simp
          go_wp2_with fail
          refine (HC2.out w1 HG1.out).mono ?_
          rintro e w2 ⟨X, xn, xk, rfl, hgx⟩
          have HG2 := Lib.hid (HG1.out.trans hgx)
          have HO1 := Lib.hid (own_grewE HO1.out hgx)
          go_wp2_with fail
          clear hgx
          refine hK.out _ _ HG2.out ?_
          clear hK K
          refine held_take 5 (v := ?_) rfl (by kernel_rfl) (by kernel_rfl) (by kernel_rfl) (fun _ _ _ h => h) (by rfl) ?_ HG2.out ?_
          rotate_left
          · (intro W hW; go_simp; with_reducible rfl)
          refine held_norm (a' := ?_) ?_ ?_
          rotate_left
          · (go_simp; with_reducible rfl)
          refine held_call 6 (by kernel_rfl) rfl (by rfl) (fun K hK => ?_)
          go_simp
          go_wp2_with fail
          obtain ⟨wz, hwz⟩ : ∃ wz, w2.alloc (.cells #[.slice none 0 0, .slice none 0 0, .slice none 0 0, .slice none 0 0, .slice none 0 0, .slice none 0 0] 51) = wz := ⟨_, rfl⟩
          have hgx : Grew w2 wz := by rw [← hwz]; exact (Grew.refl _).alloc _
          have hbz : Blok wz w2.heap.size 51 #[.slice none 0 0, .slice none 0 0, .slice none 0 0, .slice none 0 0, .slice none 0 0, .slice none 0 0] := by rw [← hwz]; exact Blok.new _ _ _ _ rfl
          have hzl : wk.heap.size ≤ w2.heap.size := HG2.out.size
          have hne : ∀ i, (Value.slice O tl.length o).ownBlock = some i → i ≠ w2.heap.size := fun i hi => by have := own_lt HO1.out i hi; omega
          obtain ⟨bp, hbp⟩ : ∃ bp, w2.heap.size = bp := ⟨_, rfl⟩
          rw [hbp] at hbz hzl hne ⊢
          rw [hwz]
          have HBz := Lib.hid hbz
          have HNe := Lib.hid hne
          have HZl := Lib.hid hzl
          have HO1 := Lib.hid (own_grewE HO1.out hgx)
          have HGz := Lib.hid (HG2.out.trans hgx)
          clear hne hgx hbz hzl hwz hbp
          refine hK.out _ _ HGz.out ?_
          clear hK K
          have m0 := HBz.out.cell 0
          have m1 := HBz.out.cell 1
          have m2 := HBz.out.cell 2
          have m3 := HBz.out.cell 3
          have m4 := HBz.out.cell 4
          have m5 := HBz.out.cell 5
          simp at m0 m1 m2 m3 m4 m5
          have t0 := HBz.out.thaw 0
          have t1 := HBz.out.thaw 1
          have t2 := HBz.out.thaw 2
          have t3 := HBz.out.thaw 3
          have t4 := HBz.out.thaw 4
          have t5 := HBz.out.thaw 5
          have hbl := HBz.out.lt
          have HB7 := Lib.hid (plan_blok6 HBz.out (.slice O tl.length o) (.slice none 0 0) (.slice none 0 0) (.slice none 0 0) (.slice none 0 0) (.slice X xn xk))
          have HG7 := Lib.hid (plan_set6 HGz.out HZl.out (.slice O tl.length o) (.slice none 0 0) (.slice none 0 0) (.slice none 0 0) (.slice none 0 0) (.slice X xn xk))
          have HO7 := Lib.hid (own_set6 HO1.out HNe.out (.slice O tl.length o) (.slice none 0 0) (.slice none 0 0) (.slice none 0 0) (.slice none 0 0) (.slice X xn xk))
          refine held_call 7 (by kernel_rfl) rfl (by rfl) (fun K hK => ?_)
          go_simp
          go_wp2_with fail
          refine hK.out _ _ HG7.out ?_
          clear hK K m0 m1 m2 m3 m4 m5 t0 t1 t2 t3 t4 t5 hbl
          refine held_done (by kernel_rfl) ?_
          go_wp2_with fail
          go_meet
          exact ⟨bp, O, o, _, rfl, HZl.out, HG7.out, HO7.out, HNe.out, ⟨X, xn, xk, rfl⟩, HB7.out⟩
        · skip
          go_simp
          go_wp2_with fail
          obtain ⟨wz, hwz⟩ : ∃ wz, w1.alloc (.cells #[.slice none 0 0, .slice none 0 0, .slice none 0 0, .slice none 0 0, .slice none 0 0, .slice none 0 0] 51) = wz := ⟨_, rfl⟩
          have hgx : Grew w1 wz := by rw [← hwz]; exact (Grew.refl _).alloc _
          have hbz : Blok wz w1.heap.size 51 #[.slice none 0 0, .slice none 0 0, .slice none 0 0, .slice none 0 0, .slice none 0 0, .slice none 0 0] := by rw [← hwz]; exact Blok.new _ _ _ _ rfl
          have hzl : wk.heap.size ≤ w1.heap.size := HG1.out.size
          have hne : ∀ i, (Value.slice O tl.length o).ownBlock = some i → i ≠ w1.heap.size := fun i hi => by have := own_lt HO1.out i hi; omega
          obtain ⟨bp, hbp⟩ : ∃ bp, w1.heap.size = bp := ⟨_, rfl⟩
          rw [hbp] at hbz hzl hne ⊢
          rw [hwz]
          have HBz := Lib.hid hbz
          have HNe := Lib.hid hne
          have HZl := Lib.hid hzl
          have HO1 := Lib.hid (own_grewE HO1.out hgx)
          have HGz := Lib.hid (HG1.out.trans hgx)
          clear hne hgx hbz hzl hwz hbp
          refine hK.out _ _ HGz.out ?_
          clear hK K
          refine held_call 4 (by kernel_rfl) rfl (by rfl) (fun K hK => ?_)
          go_simp
          go_wp2_with fail
          refine (HC2.out wz HGz.out).mono ?_
          rintro e w2 ⟨X, xn, xk, rfl, hgx⟩
          have HG2 := Lib.hid (HGz.out.trans hgx)
          have HO1 := Lib.hid (own_grewE HO1.out hgx)
          have HBz := Lib.hid (HBz.out.grew hgx)
          go_wp2_with fail
          clear hgx
          refine hK.out _ _ HG2.out ?_
          clear hK K
          refine held_take 5 (v := ?_) rfl (by kernel_rfl) (by kernel_rfl) (by kernel_rfl) (fun _ _ _ h => h) (by rfl) ?_ HG2.out ?_
          rotate_left
          · (intro W hW; go_simp; with_reducible rfl)
          refine held_norm (a' := ?_) ?_ ?_
          rotate_left
          · (go_simp; with_reducible rfl)
          have m0 := HBz.out.cell 0
          have m1 := HBz.out.cell 1
          have m2 := HBz.out.cell 2
          have m3 := HBz.out.cell 3
          have m4 := HBz.out.cell 4
          have m5 := HBz.out.cell 5
          simp at m0 m1 m2 m3 m4 m5
          have t0 := HBz.out.thaw 0
          have t1 := HBz.out.thaw 1
          have t2 := HBz.out.thaw 2
          have t3 := HBz.out.thaw 3
          have t4 := HBz.out.thaw 4
          have t5 := HBz.out.thaw 5
          have hbl := HBz.out.lt
          have HB7 := Lib.hid (plan_blok6 HBz.out (.slice O tl.length o) (.slice none 0 0) (.slice none 0 0) (.slice none 0 0) (.slice none 0 0) (.slice X xn xk))
          have HG7 := Lib.hid (plan_set6 HG2.out HZl.out (.slice O tl.length o) (.slice none 0 0) (.slice none 0 0) (.slice none 0 0) (.slice none 0 0) (.slice X xn xk))
          have HO7 := Lib.hid (own_set6 HO1.out HNe.out (.slice O tl.length o) (.slice none 0 0) (.slice none 0 0) (.slice none 0 0) (.slice none 0 0) (.slice X xn xk))
          refine held_call 7 (by kernel_rfl) rfl (by rfl) (fun K hK => ?_)
          go_simp
          go_wp2_with fail
          refine hK.out _ _ HG7.out ?_
          clear hK K m0 m1 m2 m3 m4 m5 t0 t1 t2 t3 t4 t5 hbl
          refine held_done (by kernel_rfl) ?_
          go_wp2_with fail
          go_meet
          exact ⟨bp, O, o, _, rfl, HZl.out, HG7.out, HO7.out, HNe.out, ⟨X, xn, xk, rfl⟩, HB7.out⟩
      · skip
        go_simp
        go_wp2_with fail
        obtain ⟨wz, hwz⟩ : ∃ wz, wd.alloc (.cells #[.slice none 0 0, .slice none 0 0, .slice none 0 0, .slice none 0 0, .slice none 0 0, .slice none 0 0] 51) = wz := ⟨_, rfl⟩
        have hgx : Grew wd wz := by rw [← hwz]; exact (Grew.refl _).alloc _
        have hbz : Blok wz wd.heap.size 51 #[.slice none 0 0, .slice none 0 0, .slice none 0 0, .slice none 0 0, .slice none 0 0, .slice none 0 0] := by rw [← hwz]; exact Blok.new _ _ _ _ rfl
        have hzl : wk.heap.size ≤ wd.heap.size := HGd.out.size
        obtain ⟨bp, hbp⟩ : ∃ bp, wd.heap.size = bp := ⟨_, rfl⟩
        rw [hbp] at hbz hzl  ⊢
        rw [hwz]
        have HBz := Lib.hid hbz
        have HZl := Lib.hid hzl
        have HGz := Lib.hid (HGd.out.trans hgx)
        clear hgx hbz hzl hwz hbp
        refine hK.out _ _ HGz.out ?_
        clear hK K
        refine held_call 1 (by kernel_rfl) rfl (by rfl) (fun K hK => ?_)
        go_simp
        go_wp2_with fail
        refine (HC1.out wz HGz.out).mono ?_
        rintro e w1 ⟨O, o, rfl, hgx, hox⟩
        have HO1 := Lib.hid (own_le hox HGz.out.size)
        have HNe : Hid (∀ i, (Value.slice O tl.length o).ownBlock = some i → i ≠ bp) := Lib.hid fun i hi => by have h1 := own_base hox i hi; have h2 := HBz.out.lt; omega
        have HG1 := Lib.hid (HGz.out.trans hgx)
        have HBz := Lib.hid (HBz.out.grew hgx)
        go_wp2_with fail
        clear hgx hox
        refine hK.out _ _ HG1.out ?_
        clear hK K
        refine held_call 4 (by kernel_rfl) rfl (by rfl) (fun K hK => ?_)
        go_simp
        go_wp2_with fail
        refine (HC2.out w1 HG1.out).mono ?_
        rintro e w2 ⟨X, xn, xk, rfl, hgx⟩
        have HG2 := Lib.hid (HG1.out.trans hgx)
        have HO1 := Lib.hid (own_grewE HO1.out hgx)
        have HBz := Lib.hid (HBz.out.grew hgx)
        go_wp2_with fail
        clear hgx
        refine hK.out _ _ HG2.out ?_
        clear hK K
        refine held_take 5 (v := ?_) rfl (by kernel_rfl) (by kernel_rfl) (by kernel_rfl) (fun _ _ _ h => h) (by rfl) ?_ HG2.out ?_
        rotate_left
        · (intro W hW; go_simp; with_reducible rfl)
        refine held_norm (a' := ?_) ?_ ?_
        rotate_left
        · (go_simp; with_reducible rfl)
        have m0 := HBz.out.cell 0
        have m1 := HBz.out.cell 1
        have m2 := HBz.out.cell 2
        have m3 := HBz.out.cell 3
        have m4 := HBz.out.cell 4
        have m5 := HBz.out.cell 5
        simp at m0 m1 m2 m3 m4 m5
        have t0 := HBz.out.thaw 0
        have t1 := HBz.out.thaw 1
        have t2 := HBz.out.thaw 2
        have t3 := HBz.out.thaw 3
        have t4 := HBz.out.thaw 4
        have t5 := HBz.out.thaw 5
        have hbl := HBz.out.lt
        have HB7 := Lib.hid (plan_blok6 HBz.out (.slice O tl.length o) (.slice none 0 0) (.slice none 0 0) (.slice none 0 0) (.slice none 0 0) (.slice X xn xk))
        have HG7 := Lib.hid (plan_set6 HG2.out HZl.out (.slice O tl.length o) (.slice none 0 0) (.slice none 0 0) (.slice none 0 0) (.slice none 0 0) (.slice X xn xk))
        have HO7 := Lib.hid (own_set6 HO1.out HNe.out (.slice O tl.length o) (.slice none 0 0) (.slice none 0 0) (.slice none 0 0) (.slice none 0 0) (.slice X xn xk))
        refine held_call 7 (by kernel_rfl) rfl (by rfl) (fun K hK => ?_)
        go_simp
        go_wp2_with fail
        refine hK.out _ _ HG7.out ?_
        clear hK K m0 m1 m2 m3 m4 m5 t0 t1 t2 t3 t4 t5 hbl
        refine held_done (by kernel_rfl) ?_
        go_wp2_with fail
        go_meet
        exact ⟨bp, O, o, _, rfl, HZl.out, HG7.out, HO7.out, HNe.out, ⟨X, xn, xk, rfl⟩, HB7.out⟩
    case rest =>
      obtain ⟨bp, O, o, vw, rfl, hlow, hgm, hom, hne, ⟨Xw, nw, cw, rfl⟩, hbp⟩ := hcut
      have HS1 : Hid (OfS wk bp tl O o [] none 0 [] (.slice none 0 0) (.slice none 0 0) none 0 0 (.slice Xw nw cw) wc) := Lib.hid ⟨hbp, hom, (GatF.nil wk).on hgm, ⟨[], own_none _ _ _ _⟩, hlow⟩
      clear hlow hgm hom hne hbp HC1 HC2 HXc
      obtain ⟨AL, hAL⟩ : ∃ AL, (allI (clI (clsE es)) sc.length l tl).map fvF = AL := ⟨_, rfl⟩
      have HAl : Hid (∀ W, Grew wk W → Calls Try.prog 9 #[.agg #[.int .i64 core, .slice A sc.length k, .slice B es.length j, .slice C rs.length c, .slice D l.length d, .slice E wh.length en], .slice T tl.length kt] W (FlsF W AL)) := Lib.hid fun W hW => by
        have := pall_any core es l tl T kt A sc.length k B j C rs.length c D d E wh.length en W hM hes hks (by rw [HTll.out]; omega) (rD.grew (HG0.out.trans (HGc.out.trans hW))) (rB.grew (HG0.out.trans (HGc.out.trans hW))) (HRc.out.grew hW)
        rw [hAL] at this
        exact this
      have HGd : Hid (∀ v ∈ AL, GoodF sc.length l tl v) := Lib.hid (by rw [← hAL]; exact good31 hks)
      have HLl : Hid (AL.length ≤ 1001000) := Lib.hid (by rw [← hAL]; exact all31_len hM)
      have HALe := Lib.hid hAL
      clear hAL
      obtain ⟨xl, x0, x1, x2, x3, x4, x5⟩ := nm_in (HX0.out.grew (HGc.out.trans HS1.out.gat.grew))
      go_wp2_with (go_at_call 9; (with_reducible refine (HAl.out _ HS1.out.gat.grew).mono ?_); rintro e4 w4 ⟨Q, qk, rfl, hg4, hf4⟩; have HS4 := Lib.hid (HS1.out.on hg4); have HF4 := Lib.hid hf4; clear hg4 hf4)
      clear xl x0 x1 x2 x3 x4 x5 HAl HS1
      go_loopw [35] (fun i wr => FilO wk w4 bp tl O o AL fs (.slice Xw nw cw) i wr) (fun i _ => fs.length - (intOf i).toNat)
      case atStart => exact ⟨0, none, 0, [], Nat.zero_le _, rfl, HS4.out, Turns.refl _ _, fun i hi => by cases hi⟩
      case round =>
        obtain ⟨q, F, f, css, hq, rfl, hs, ht, hF⟩ := hrel
        have HS := Lib.hid hs
        have HT := Lib.hid ht
        have HF := Lib.hid hF
        clear hs ht hF
        have HAw : Hid (FvsR (PRow wr) Q AL) := Lib.hid (fvs_past HF4.out HS4.out.plan six_slices HT.out)
        by_cases hlt : q < fs.length
        · have HKt := Lib.hid (keptP_take (AL := AL) hlt)
          have hkl : (keptP AL (fs.take q)).length ≤ 1000 := Nat.le_trans (keptP_len _ _) (by rw [List.length_take]; omega)
          obtain ⟨b, off, Xa, xa, Xb, xb, rfl, hbf, g0, g1, g2, g3, rX, rY⟩ := fvsR_at (rF.grew (HG0.out.trans (HGc.out.trans HS.out.gat.grew))) hlt
          have HRX := Lib.hid rX
          have HRY := Lib.hid rY
          clear rX rY
          generalize fs[q] = y at *
          generalize keptP AL (fs.take q) = K at *
          go_upto_region 8 with fail
          have HFb : Hid (Blok (wr.alloc (.cells #[.int .i64 y.f, .slice Xa y.a.length xa, .int .i64 y.t, .slice Xb y.b.length xb] 43)) wr.heap.size 43 #[.int .i64 y.f, .slice Xa y.a.length xa, .int .i64 y.t, .slice Xb y.b.length xb]) := Lib.hid (Blok.new _ _ _ _ rfl)
          have HGw : Hid (Grew wr (wr.alloc (.cells #[.int .i64 y.f, .slice Xa y.a.length xa, .int .i64 y.t, .slice Xb y.b.length xb] 43))) := Lib.hid ((Grew.refl wr).alloc _)
          have HFn : Hid (wr.heap.size ≠ bp ∧ (∀ i, (Value.slice F K.length f).ownBlock = some i → i ≠ wr.heap.size) ∧ w4.heap.size ≤ wr.heap.size ∧ wk.heap.size ≤ wr.heap.size) := Lib.hid ⟨fun e => by have := HS.out.plan.lt; omega, fun i hi => by have := own_lt HS.out.gat.own i hi; omega, HT.out.size, HS.out.gat.grew.size⟩
          clear hbf g0 g1 g2 g3
          generalize (wr.alloc (.cells #[.int .i64 y.f, .slice Xa y.a.length xa, .int .i64 y.t, .slice Xb y.b.length xb] 43)) = W5 at *
          generalize wr.heap.size = fb at *
          have HS5 := Lib.hid (HS.out.on HGw.out)
          have HT5 := Lib.hid (HT.out.grew HGw.out)
          have HCf : Hid (Gives Try.prog 39 #[.slice Q AL.length qk, .func (.func 40) #[] #[.pointer (some ⟨fb, 0, none⟩)]] W5 (.bool (AL.any (sameFv y)))) := Lib.hid (containsf_any y AL (fun v hv => by have h := HGd.out v hv; have h1 := h.few; have h2 := h.same; omega) (by have := HLl.out; omega) Xa xa Xb xb Q qk fb W5 HFb.out (HRX.out.grew HGw.out) (HRY.out.grew HGw.out) (HAw.out.grew HGw.out))
          have HIn : Hid (AL.any (sameFv y) = true → y.a.length ≤ 3000 ∧ y.b.length ≤ 3000) := Lib.hid fun h => by
            obtain ⟨z, hz, hsz⟩ := List.any_eq_true.1 h
            have e := sameFv_eq.1 hsz
            subst e
            have h := HGd.out y hz
            have h1 := h.few
            have h2 := h.same
            omega
          clear HS HT HAw
          generalize AL.any (sameFv y) = bb at *
          cases bb
          · have HKe : Hid (keptP AL (fs.take (q + 1)) = K) := Lib.hid (by rw [HKt.out]; simp)
            clear HKt HIn
            go_wp2_with (go_at_call 39; (with_reducible refine HCf.out.grows.mono ?_); rintro e6 w6 ⟨rfl, hg6⟩; have HS6 := Lib.hid (HS5.out.on hg6); have HT6 := Lib.hid (HT5.out.grew hg6); clear hg6)
            exact ⟨⟨q + 1, F, f, css, by omega, by go_num, by rw [HKe.out]; exact HS6.out, HT6.out, by rw [HKe.out]; exact HF.out⟩, by simp only [intOf]; omega⟩
          · have HKe : Hid (keptP AL (fs.take (q + 1)) = K ++ [y]) := Lib.hid (by rw [HKt.out]; simp)
            have HIl := Lib.hid (HIn.out rfl)
            clear HKt HIn
            go_upto_region 9 with (go_at_call 39; (with_reducible refine HCf.out.grows.mono ?_); rintro e6 w6 ⟨rfl, hg6⟩; have HS6 := Lib.hid (HS5.out.on hg6); have HT6 := Lib.hid (HT5.out.grew hg6); have HB6 := Lib.hid (HFb.out.grew hg6); have HG6x := Lib.hid hg6; have HG6 := Lib.hid (HGw.out.trans hg6); clear hg6)
            have HXa : Hid (∀ W, Grew W5 W → Calls Try.prog 37 #[.slice Xa y.a.length xa] W (OwnI W y.a)) := Lib.hid fun W hW => clone_ints y.a (by have := HIl.out; omega) Xa xa W (HRX.out.grew (HGw.out.trans hW))
            have HXb : Hid (∀ W, Grew W5 W → Calls Try.prog 37 #[.slice Xb y.b.length xb] W (OwnI W y.b)) := Lib.hid fun W hW => clone_ints y.b (by have := HIl.out; omega) Xb xb W (HRY.out.grew (HGw.out.trans hW))
            have HG56 := Lib.hid (show Grew W5 w6 from HG6x.out)
            have hS0 : Blok w6.drew fb 43 #[.int .i64 y.f, .slice Xa y.a.length xa, .int .i64 y.t, .slice Xb y.b.length xb] := HB6.out.grew (Grew.refl w6).drew
            have HG0d := Lib.hid (HG56.out.trans (Grew.refl w6).drew)
            have HS0d := Lib.hid (HS6.out.on (Grew.refl w6).drew)
            have HT0d := Lib.hid (HT6.out.grew (Grew.refl w6).drew)
            refine wp_region_tail (fun W => Blok W fb 43 #[.int .i64 y.f, .slice Xa y.a.length xa, .int .i64 y.t, .slice Xb y.b.length xb]) 7 3 rfl (by kernel_rfl) ?_
            generalize w6.drew = w7 at *
            refine tail_take 0 (v := ?_) rfl (by kernel_rfl) (by kernel_rfl) (by kernel_rfl) (by kernel_rfl) (fun _ _ _ h => h) (by rfl) ?_ hS0 ?_
            rotate_left
            · (intro W hW; go_simp; with_reducible rfl)
            refine tail_norm (a' := ?_) ?_ ?_
            rotate_left
            · (go_simp; with_reducible rfl)
            refine tail_take 1 (v := ?_) rfl (by kernel_rfl) (by kernel_rfl) (by kernel_rfl) (by kernel_rfl) (fun _ _ _ h => h) (by rfl) ?_ hS0 ?_
            rotate_left
            · (intro W hW; obtain ⟨gl, g0, g1, g2, g3⟩ := f4_in hW; go_simp; with_reducible rfl)
            refine tail_norm (a' := ?_) ?_ ?_
            rotate_left
            · (go_simp; with_reducible rfl)
            refine tail_take 3 (v := ?_) rfl (by kernel_rfl) (by kernel_rfl) (by kernel_rfl) (by kernel_rfl) (fun _ _ _ h => h) (by rfl) ?_ hS0 ?_
            rotate_left
            · (intro W hW; go_simp; with_reducible rfl)
            refine tail_norm (a' := ?_) ?_ ?_
            rotate_left
            · (go_simp; with_reducible rfl)
            refine tail_take 4 (v := ?_) rfl (by kernel_rfl) (by kernel_rfl) (by kernel_rfl) (by kernel_rfl) (fun _ _ _ h => h) (by rfl) ?_ hS0 ?_
            rotate_left
            · (intro W hW; obtain ⟨gl, g0, g1, g2, g3⟩ := f4_in hW; go_simp; with_reducible rfl)
            refine tail_norm (a' := ?_) ?_ ?_
            rotate_left
            · (go_simp; with_reducible rfl)
            refine tail_call 2 (by kernel_rfl) (by kernel_rfl) rfl (by rfl) (fun K hK => ?_)
            go_simp
            go_wp2_with fail
            refine (HXa.out _ HG0d.out).mono ?_
            rintro e8 w8 ⟨X8, x8, rfl, hg8, ho8⟩
            have HS8 := Lib.hid (HS0d.out.on hg8)
            have HT8 := Lib.hid (HT0d.out.grew hg8)
            have HG8 := Lib.hid (HG0d.out.trans hg8)
            have hS8 := hS0.grew hg8
            have HR8 : Hid (TRow wk.heap.size w8 3 X8 (iV y.a)) := Lib.hid ((TRow.own ho8).low HS0d.out.gat.grew.size)
            clear hg8 ho8
            go_wp2_with fail
            refine hK.out _ _ hS8 ?_
            clear hK K
            refine tail_take 6 (v := ?_) rfl (by kernel_rfl) (by kernel_rfl) (by kernel_rfl) (by kernel_rfl) (fun _ _ _ h => h) (by rfl) ?_ hS8 ?_
            rotate_left
            · (intro W hW; go_simp; with_reducible rfl)
            refine tail_norm (a' := ?_) ?_ ?_
            rotate_left
            · (go_simp; with_reducible rfl)
            refine tail_call 5 (by kernel_rfl) (by kernel_rfl) rfl (by rfl) (fun K hK => ?_)
            go_simp
            go_wp2_with fail
            refine (HXb.out _ HG8.out).mono ?_
            rintro e9 w9 ⟨Y9, y9, rfl, hg9, ho9⟩
            have HS9 := Lib.hid (HS8.out.on hg9)
            have HT9 := Lib.hid (HT8.out.grew hg9)
            have hS9 := hS8.grew hg9
            have HR9 : Hid (TRow wk.heap.size w9 3 X8 (iV y.a)) := Lib.hid (HR8.out.grew hg9)
            have HQ9 : Hid (TRow wk.heap.size w9 3 Y9 (iV y.b)) := Lib.hid ((TRow.own ho9).low HS8.out.gat.grew.size)
            clear hg9 ho9
            go_wp2_with fail
            refine hK.out _ _ hS9 ?_
            clear hK K
            refine tail_done (by kernel_rfl) ?_
            have HB9 := Lib.hid hS9
            clear hS0 hS8 hS9 HS0d HT0d HG0d HS8 HT8 HG8 HR8 HS6 HT6 HB6 HG6 HG56 HXa HXb
            obtain ⟨gl, g0, g1, g2, g3⟩ := f4_in HB9.out
            have z1 := HB9.out.thaw 1
            have z3 := HB9.out.thaw 3
            refine wpAny_ready (rs := [7]) (by kernel_rfl) (by simp) ?_
            refine AllReady.cons rfl (fun K hK => ?_) AllReady.nil
            have HK := Lib.hid hK
            clear hK
            go_simp
            refine HK.out _ _ ?_
            clear HK K
            refine wpAny_take (i := 8) (v := ?_) rfl (by kernel_rfl) (by kernel_rfl) (by kernel_rfl) (fun _ _ _ h => h) (Or.inl ⟨by rfl, ?_⟩) ?_
            rotate_left
            · (intro w; go_simp; with_reducible rfl)
            refine wpAny_ready (rs := [9]) (by kernel_rfl) (by simp) ?_
            refine AllReady.cons rfl (fun K hK => ?_) AllReady.nil
            have HK := Lib.hid hK
            clear hK
            go_simp
            refine HK.out _ _ ?_
            clear HK K
            refine ⟨by kernel_rfl, ?_⟩
            obtain ⟨WS, hWS⟩ : ∃ WS, (w9.setCell ⟨fb, 1, none⟩ (.slice X8 y.a.length x8)).setCell ⟨fb, 3, none⟩ (.slice Y9 y.b.length y9) = WS := ⟨_, rfl⟩
            have HBs : Hid (Blok WS fb 43 #[.int .i64 y.f, .slice X8 y.a.length x8, .int .i64 y.t, .slice Y9 y.b.length y9]) := Lib.hid (by
              rw [← hWS]
              have := (HB9.out.set 1 (.slice X8 y.a.length x8)).set 3 (.slice Y9 y.b.length y9)
              simpa using this)
            have HSs : Hid (OfS wk bp tl O o K F f css (.slice none 0 0) (.slice none 0 0) none 0 0 (.slice Xw nw cw) WS) := Lib.hid (by
              rw [← hWS]
              refine (HS9.out.far HB9.out neIF nePrF (Ne.symm HFn.out.1) HFn.out.2.2.2 HFn.out.2.1 1 _).far (cs := #[.int .i64 y.f, .slice X8 y.a.length x8, .int .i64 y.t, .slice Xb y.b.length xb]) (t := 43) ?_ neIF nePrF (Ne.symm HFn.out.1) HFn.out.2.2.2 HFn.out.2.1 3 _
              have := HB9.out.set 1 (.slice X8 y.a.length x8)
              simpa using this)
            have HTs : Hid (Turns w4 WS bp) := Lib.hid (by rw [← hWS]; exact turns_far (turns_far HT9.out (p := ⟨fb, 1, none⟩) HFn.out.2.2.1 _) (p := ⟨fb, 3, none⟩) HFn.out.2.2.1 _)
            have hfx : ∀ A (xs : List Value), TRow wk.heap.size w9 3 A xs → TRow wk.heap.size WS 3 A xs := fun A xs hx => by
              rw [← hWS]
              have hb1 : Blok (w9.setCell ⟨fb, 1, none⟩ (.slice X8 y.a.length x8)) fb 43 #[.int .i64 y.f, .slice X8 y.a.length x8, .int .i64 y.t, .slice Xb y.b.length xb] := by
                have := HB9.out.set 1 (.slice X8 y.a.length x8)
                simpa using this
              exact (hx.apart ((Turns.refl w9 fb).set 1 _) HB9.out neIF).apart ((Turns.refl _ fb).set 3 _) hb1 neIF
            have HRs := Lib.hid (hfx _ _ HR9.out)
            have HQs := Lib.hid (hfx _ _ HQ9.out)
            clear hfx HS9 HT9 HR9 HQ9 gl g0 g1 g2 g3 z1 z3
            have HWS := Lib.hid hWS
            clear hWS
            rw [HWS.out]
            clear HWS HB9
            obtain ⟨gl, g0, g1, g2, g3⟩ := f4_in HBs.out
            obtain ⟨pl, p0, p1, p2, p3, p4, p5⟩ := pl_in HSs.out.plan
            have t1 := HSs.out.plan.thaw 1
            go_wp2_with (at_builtin; refine wpList_appC rfl _ _ 39 43 4 rfl wk.heap.size (.agg #[.int .i64 0, .slice none 0 0, .int .i64 0, .slice none 0 0]) 64 Try.underlying39 infoFl rfl (by decide) (by decide) _ K.length css.flatten rfl (own_alloc HSs.out.gat.own _) _ 1 1 [.int .i64 y.f, .slice X8 y.a.length x8, .int .i64 y.t, .slice Y9 y.b.length y9] rfl rfl (row_new _ 43 _ #[.int .i64 y.f, .slice X8 y.a.length x8, .int .i64 y.t, .slice Y9 y.b.length y9] rfl) (by simp [Value.oneCell']) (by omega) (by rw [World.size_alloc]; have := HSs.out.gat.grew.size; omega) ?_; intro A10 c10 w10 ho10 hg10 hor10; have HO10 := Lib.hid ho10; have HG10 := Lib.hid hg10; have HR10 := Lib.hid hor10; clear ho10 hg10 hor10; have HP10 := Lib.hid ((HSs.out.plan.alloc (.cells #[.int .i64 y.f, .slice X8 y.a.length x8, .int .i64 y.t, .slice Y9 y.b.length y9] 43)).grown HG10.out fun e => own_notblk HSs.out.gat.own HSs.out.plan neFPl bp e rfl); clear gl g0 g1 g2 g3 pl p0 p1 p2 p3 p4 p5 t1; obtain ⟨pl, p0, p1, p2, p3, p4, p5⟩ := pl_in HP10.out; have t1 := HP10.out.thaw 1)
            have HE10 := Lib.hid ((HSs.out.on ((Grew.refl _).alloc _)).keep (x := y) (cs := [.int .i64 y.f, .slice X8 y.a.length x8, .int .i64 y.t, .slice Y9 y.b.length y9]) ⟨X8, x8, Y9, y9, rfl, Or.inr (HRs.out.grew ((Grew.refl _).alloc _)), Or.inr (HQs.out.grew ((Grew.refl _).alloc _))⟩ HO10.out HG10.out)
            have HT10 := Lib.hid (((HTs.out.grew ((Grew.refl _).alloc _)).grown HG10.out HF.out).set 1 (.slice A10 (K.length + 1) c10))
            have hlen : (K ++ [y]).length = K.length + 1 := by simp
            exact ⟨⟨q + 1, A10, c10, _, by omega, by go_num, by rw [HKe.out]; exact HE10.out, HT10.out, by
              rw [HKe.out, hlen]
              intro i hi
              rcases HR10.out with e | e
              · rw [e] at hi; exact HF.out i hi
              · rw [e] at hi
                cases hi
                rw [World.size_alloc]
                have := HTs.out.size
                omega⟩, by simp only [intOf]; omega⟩
        · obtain rfl : q = fs.length := by omega
          rw [List.take_length] at HS HF
          obtain ⟨KK, hKK⟩ : ∃ KK, keptP AL fs = KK := ⟨_, rfl⟩
          rw [hKK] at HS HF
          have HKK := Lib.hid hKK
          clear hKK HF HT HAw HS4 HF4
          have HAs : Hid (∀ (q : Nat) W, Grew wk W → Calls Try.prog 42 #[.agg #[.int .i64 core, .slice A sc.length k, .slice B es.length j, .slice C rs.length c, .slice D l.length d, .slice E wh.length en], .slice T tl.length kt, .int .i64 q] W (SomeS W)) := Lib.hid fun q W hW => pasked_any core rs q tl T kt A sc.length k B es.length j C c D l.length d E wh.length en W (by omega) hrs hxs (by rw [HTll.out]; omega) (rC.grew (HG0.out.trans (HGc.out.trans hW))) (HRc.out.grew hW)
          have HKy : Hid (∀ (q : Nat) (t : Int) W, q ≤ tl.length → Grew wk W → Calls Try.prog 43 #[.agg #[.int .i64 core, .slice A sc.length k, .slice B es.length j, .slice C rs.length c, .slice D l.length d, .slice E wh.length en], .slice T q kt, .int .i64 t] W (SomeS W)) := Lib.hid fun q t W hq hW => by
            have hl : (tl.take q).length = q := by rw [List.length_take]; omega
            have hr : Row W T (iV (tl.take q)) := by
              have h := HRc.out.grew hW
              have e : iV tl = iV (tl.take q) ++ iV (tl.drop q) := by rw [iV_appE', List.take_append_drop]
              rw [e] at h
              exact Row.front h
            have := pkeys_any core es t (tl.take q) T kt A sc.length k B j C rs.length c D l.length d E wh.length en W (by omega) (by rw [hl]; have := HTll.out; omega) (rB.grew (HG0.out.trans (HGc.out.trans hW))) hr
            rw [hl] at this
            exact this
          have htl1 : tl.length ≤ 1000 := by rw [HTll.out]; omega
          go_wp2_with fail
          go_loopw [59] (fun i wr => TabO wk bp tl O o KK F f css (.slice Xw nw cw) i wr) (fun i _ => tl.length - (intOf i).toNat)
          case atStart => exact ⟨0, 0, none, 0, none, 0, 0, Nat.zero_le _, Nat.le_refl _, rfl, HS.out⟩
          case round =>
            obtain ⟨q, m, P, p, X3, n3, c3, hq, hm, rfl, hs⟩ := hrel
            have HS := Lib.hid hs
            clear hs
            by_cases hlt : q < tl.length
            · obtain ⟨b7, o7, hT7, hb7, hc7⟩ := rowI_at (HRc.out.grew HS.out.gat.grew) hlt
              subst hT7
              have HAq := Lib.hid (HAs.out q)
              have HKq := Lib.hid (fun t W hW => HKy.out q t W hq hW)
              generalize tl[q] = tt at *
              have HXr := Lib.hid (HX0.out.grew (HGc.out.trans HS.out.gat.grew))
              obtain ⟨xl, x0, x1, x2, x3, x4, x5⟩ := nm_in HXr.out
              go_upto_region 16 with (go_at_call 42; (with_reducible refine (HAq.out _ HS.out.gat.grew).mono ?_); rintro e5 w5 ⟨X5, n5, c5, rfl, hg5⟩; have HS5 := Lib.hid (HS.out.on hg5); have HX5 := Lib.hid (HXr.out.grew hg5); clear hg5)
              clear xl x0 x1 x2 x3 x4 x5 hb7 hc7 HS HXr
              by_cases h0 : q = 0
              · subst h0
                obtain ⟨pl, p0, p1, p2, p3, p4, p5⟩ := pl_in HS5.out.plan
                have t3 := HS5.out.plan.thaw 3
                have HE := Lib.hid (HS5.out.first (.slice X5 n5 c5))
                go_wp2_with fail
                exact ⟨⟨1, m, P, p, X5, n5, c5, by omega, by omega, by go_num, HE.out⟩, by simp only [intOf]; omega⟩
              · have e0 : ((q : Int) == 0) = false := by rw [beq_eq_false_iff_ne]; omega
                have HKt1 := Lib.hid HKt.out
                have hqk : (q : Int) ≤ (kt : Int) := by have := HKt.out; omega
                have hqk2 : q ≤ kt := by have := HKt.out; omega
                obtain ⟨xs, hxs0⟩ := HS5.out.prb
                have HXs := Lib.hid hxs0
                clear hxs0
                go_upto_region 18 with fail
                have hS0 : Blok w5.drew bp 51 #[.slice O tl.length o, .slice F KK.length f, .slice none 0 0, .slice X3 n3 c3, .slice P m p, .slice Xw nw cw] ∧ Blok w5.drew bx 37 #[.int .i64 core, .slice A sc.length k, .slice B es.length j, .slice C rs.length c, .slice D l.length d, .slice E wh.length en] := ⟨HS5.out.plan.grew (Grew.refl w5).drew, HX5.out.grew (Grew.refl w5).drew⟩
                have HSd := Lib.hid (HS5.out.on (Grew.refl w5).drew)
                have HXd := Lib.hid (own_grewE HXs.out (Grew.refl w5).drew)
                refine wp_region_tail (fun W => Blok W bp 51 #[.slice O tl.length o, .slice F KK.length f, .slice none 0 0, .slice X3 n3 c3, .slice P m p, .slice Xw nw cw] ∧ Blok W bx 37 #[.int .i64 core, .slice A sc.length k, .slice B es.length j, .slice C rs.length c, .slice D l.length d, .slice E wh.length en]) 13 2 rfl (by kernel_rfl) ?_
                generalize w5.drew = w6 at *
                refine tail_take 0 (v := ?_) rfl (by kernel_rfl) (by kernel_rfl) (by kernel_rfl) (by kernel_rfl) (fun _ _ _ h => h) (by rfl) ?_ hS0 ?_
                rotate_left
                · (intro W hW; go_simp; with_reducible rfl)
                refine tail_norm (a' := ?_) ?_ ?_
                rotate_left
                · (go_simp; with_reducible rfl)
                refine tail_take 1 (v := ?_) rfl (by kernel_rfl) (by kernel_rfl) (by kernel_rfl) (by kernel_rfl) (fun _ _ _ h => h) (by rfl) ?_ hS0 ?_
                rotate_left
                · (intro W hW; obtain ⟨pl, p0, p1, p2, p3, p4, p5⟩ := pl_in hW.1; go_simp; with_reducible rfl)
                refine tail_norm (a' := ?_) ?_ ?_
                rotate_left
                · (go_simp; with_reducible rfl)
                refine tail_take 2 (v := ?_) rfl (by kernel_rfl) (by kernel_rfl) (by kernel_rfl) (by kernel_rfl) (fun _ _ _ h => h) (by rfl) ?_ hS0 ?_
                rotate_left
                · (intro W hW; go_simp; with_reducible rfl)
                refine tail_norm (a' := ?_) ?_ ?_
                rotate_left
                · (go_simp; with_reducible rfl)
                refine tail_take 3 (v := ?_) rfl (by kernel_rfl) (by kernel_rfl) (by kernel_rfl) (by kernel_rfl) (fun _ _ _ h => h) (by rfl) ?_ hS0 ?_
                rotate_left
                · (intro W hW; obtain ⟨xl, x0, x1, x2, x3, x4, x5⟩ := nm_in hW.2; go_simp; with_reducible rfl)
                refine tail_norm (a' := ?_) ?_ ?_
                rotate_left
                · (go_simp; with_reducible rfl)
                refine tail_take 4 (v := ?_) rfl (by kernel_rfl) (by kernel_rfl) (by kernel_rfl) (by kernel_rfl) (fun _ _ _ h => h) (by rfl) ?_ hS0 ?_
                rotate_left
                · (intro W hW; go_simp; with_reducible rfl)
                refine tail_norm (a' := ?_) ?_ ?_
                rotate_left
                · (go_simp; with_reducible rfl)
                refine tail_take 5 (v := ?_) rfl (by kernel_rfl) (by kernel_rfl) (by kernel_rfl) (by kernel_rfl) (fun _ _ _ h => h) (by rfl) ?_ hS0 ?_
                rotate_left
                · (intro W hW; go_simp; with_reducible rfl)
                refine tail_norm (a' := ?_) ?_ ?_
                rotate_left
                · (go_simp; with_reducible rfl)
                refine tail_take 6 (v := ?_) rfl (by kernel_rfl) (by kernel_rfl) (by kernel_rfl) (by kernel_rfl) (fun _ _ _ h => h) (by rfl) ?_ hS0 ?_
                rotate_left
                · (intro W hW; go_simp; with_reducible rfl)
                refine tail_norm (a' := ?_) ?_ ?_
                rotate_left
                · (go_simp; with_reducible rfl)
                refine tail_take 7 (v := ?_) rfl (by kernel_rfl) (by kernel_rfl) (by kernel_rfl) (by kernel_rfl) (fun _ _ _ h => h) (by rfl) ?_ hS0 ?_
                rotate_left
                · (intro W hW; go_simp; with_reducible rfl)
                refine tail_norm (a' := ?_) ?_ ?_
                rotate_left
                · (go_simp; with_reducible rfl)
                refine tail_take 9 (v := ?_) rfl (by kernel_rfl) (by kernel_rfl) (by kernel_rfl) (by kernel_rfl) (fun _ _ _ h => h) (by rfl) ?_ hS0 ?_
                rotate_left
                · (intro W hW; go_simp; with_reducible rfl)
                refine tail_norm (a' := ?_) ?_ ?_
                rotate_left
                · (go_simp; with_reducible rfl)
                refine tail_call 8 (by kernel_rfl) (by kernel_rfl) rfl (by rfl) (fun K hK => ?_)
                go_simp
                go_wp2_with fail
                refine (HKq.out _ _ HSd.out.gat.grew).mono ?_
                rintro e9 w9 ⟨X9, n9, c9, rfl, hg9⟩
                have HS9 := Lib.hid (HSd.out.on hg9)
                have HX9 := Lib.hid (own_grewE HXd.out hg9)
                have hS9 : Blok w9 bp 51 #[.slice O tl.length o, .slice F KK.length f, .slice none 0 0, .slice X3 n3 c3, .slice P m p, .slice Xw nw cw] ∧ Blok w9 bx 37 #[.int .i64 core, .slice A sc.length k, .slice B es.length j, .slice C rs.length c, .slice D l.length d, .slice E wh.length en] := ⟨hS0.1.grew hg9, hS0.2.grew hg9⟩
                clear hg9
                go_wp2_with fail
                refine hK.out _ _ hS9 ?_
                clear hK K
                refine tail_take 10 (v := ?_) rfl (by kernel_rfl) (by kernel_rfl) (by kernel_rfl) (by kernel_rfl) (fun _ _ _ h => h) (by rfl) ?_ hS9 ?_
                rotate_left
                · (intro W hW; go_simp; with_reducible rfl)
                refine tail_norm (a' := ?_) ?_ ?_
                rotate_left
                · (go_simp; with_reducible rfl)
                refine tail_call 11 (by kernel_rfl) (by kernel_rfl) rfl (by rfl) (fun K hK => ?_)
                go_simp
                go_wp2_with fail
                have hgl : Grew w9 (w9.alloc (.cells #[.int .i64 tt, .int .i64 1, .slice X9 n9 c9, .slice X5 n5 c5] 95)) := (Grew.refl w9).alloc _
                have hS10 : Blok (w9.alloc (.cells #[.int .i64 tt, .int .i64 1, .slice X9 n9 c9, .slice X5 n5 c5] 95)) bp 51 #[.slice O tl.length o, .slice F KK.length f, .slice none 0 0, .slice X3 n3 c3, .slice P m p, .slice Xw nw cw] ∧ Blok (w9.alloc (.cells #[.int .i64 tt, .int .i64 1, .slice X9 n9 c9, .slice X5 n5 c5] 95)) bx 37 #[.int .i64 core, .slice A sc.length k, .slice B es.length j, .slice C rs.length c, .slice D l.length d, .slice E wh.length en] := ⟨hS9.1.grew hgl, hS9.2.grew hgl⟩
                have HR10 : Hid (Row (w9.alloc (.cells #[.int .i64 tt, .int .i64 1, .slice X9 n9 c9, .slice X5 n5 c5] 95)) (some ⟨w9.heap.size, 0, none⟩) [.int .i64 tt, .int .i64 1, .slice X9 n9 c9, .slice X5 n5 c5]) := Lib.hid (row_new w9 95 w9.heap.size #[.int .i64 tt, .int .i64 1, .slice X9 n9 c9, .slice X5 n5 c5] rfl)
                have HS10 := Lib.hid (HS9.out.on hgl)
                have HX10 := Lib.hid (own_grewE HX9.out hgl)
                clear hgl
                refine hK.out _ _ hS10 ?_
                clear hK K
                generalize (w9.alloc (.cells #[.int .i64 tt, .int .i64 1, .slice X9 n9 c9, .slice X5 n5 c5] 95)) = w10 at *
                refine tail_call 12 (by kernel_rfl) (by kernel_rfl) rfl (by rfl) (fun K hK => ?_)
                refine wp_appB (.tmp 73) (.tmp 83) 49 95 4 rfl wk.heap.size (.agg #[.int .i64 0, .int .i64 0, .slice none 0 0, .slice none 0 0]) 64 Try.underlying49 infoPb rfl (by decide) (by decide) _ m xs rfl HX10.out (some ⟨w9.heap.size, 0, none⟩) 1 1 [.int .i64 tt, .int .i64 1, .slice X9 n9 c9, .slice X5 n5 c5] rfl rfl HR10.out (by simp [Value.oneCell']) (by omega) HS10.out.gat.grew.size ?_
                intro A11 c11 w11 ho11 hg11
                have HO11 := Lib.hid ho11
                have HG11 := Lib.hid hg11
                have hS11 : Blok w11 bp 51 #[.slice O tl.length o, .slice F KK.length f, .slice none 0 0, .slice X3 n3 c3, .slice P m p, .slice Xw nw cw] ∧ Blok w11 bx 37 #[.int .i64 core, .slice A sc.length k, .slice B es.length j, .slice C rs.length c, .slice D l.length d, .slice E wh.length en] := ⟨hS10.1.grown hg11 fun e => own_notblk HX10.out hS10.1 nePPl bp e rfl, hS10.2.grown hg11 fun e => own_notblk HX10.out hS10.2 nePNm bx e rfl⟩
                clear ho11 hg11
                refine hK.out _ _ hS11 ?_
                clear hK K
                refine tail_done (by kernel_rfl) ?_
                have HE := Lib.hid (HS10.out.probe HX10.out HO11.out HG11.out)
                obtain ⟨pl, p0, p1, p2, p3, p4, p5⟩ := pl_in hS11.1
                have t4 := hS11.1.thaw 4
                clear hS0 hS9 hS10 hS11 HSd HXd HS9 HX9 HR10 HS10 HX10 HO11 HG11 HXs HS5 HX5
                refine wpAny_take (i := 13) (v := ?_) rfl (by kernel_rfl) (by kernel_rfl) (by kernel_rfl) (fun _ _ _ h => h) (Or.inl ⟨by rfl, ?_⟩) ?_
                rotate_left
                · (intro w; go_simp; with_reducible rfl)
                refine wpAny_ready (rs := [14]) (by kernel_rfl) (by simp) ?_
                refine AllReady.cons rfl (fun K hK => ?_) AllReady.nil
                have HK := Lib.hid hK
                clear hK
                go_simp
                refine HK.out _ _ ?_
                clear HK K
                refine ⟨by kernel_rfl, ?_⟩
                clear pl p0 p1 p2 p3 p4 p5 t4
                generalize w11.setCell ⟨bp, 4, none⟩ (.slice A11 (m + 1) c11) = w12 at *
                go_wp2_with fail
                exact ⟨⟨q + 1, m + 1, A11, c11, X3, n3, c3, by omega, by omega, by go_num, HE.out⟩, by simp only [intOf]; omega⟩
            · obtain rfl : q = tl.length := by omega
              have HAn : Hid (∀ W, Grew wk W → Calls Try.prog 42 #[.agg #[.int .i64 core, .slice A sc.length k, .slice B es.length j, .slice C rs.length c, .slice D l.length d, .slice E wh.length en], .slice none 0 0, .int .i64 0] W (SomeS W)) := Lib.hid fun W hW => pasked_any core rs 0 [] none 0 A sc.length k B es.length j C c D l.length d E wh.length en W (by omega) hrs hxs (by simp) (rC.grew (HG0.out.trans (HGc.out.trans hW))) (Or.inl rfl)
              have HXr := Lib.hid (HX0.out.grew (HGc.out.trans HS.out.gat.grew))
              go_upto_if 89 with fail
              go_cut [] (fun wx => ∃ X n c, OfS wk bp tl O o KK F f css (.slice none 0 0) (.slice X n c) P m p (.slice Xw nw cw) wx)
              case first =>
                by_cases h0 : tl.length = 0
                · have e0 : ((tl.length : Int) == 0) = true := by rw [beq_iff_eq]; omega
                  have HT0 := Lib.hid h0
                  clear h0
                  obtain ⟨xl, x0, x1, x2, x3, x4, x5⟩ := nm_in HXr.out
                  go_wp2_with (go_at_call 42; (with_reducible refine (HAn.out _ HS.out.gat.grew).mono ?_); rintro e5 w5 ⟨X5, n5, c5, rfl, hg5⟩; have HS5 := Lib.hid (HS.out.on hg5); clear hg5 xl x0 x1 x2 x3 x4 x5; obtain ⟨pl, p0, p1, p2, p3, p4, p5⟩ := pl_in HS5.out.plan; have t3 := HS5.out.plan.thaw 3; have HE := Lib.hid (HS5.out.first (.slice X5 n5 c5)))
                  go_meet
                  exact ⟨X5, n5, c5, HE.out⟩
                · have e0 : ((tl.length : Int) == 0) = false := by rw [beq_eq_false_iff_ne]; omega
                  go_wp2_with fail
                  go_meet
                  exact ⟨_, _, _, HS.out⟩
              case rest =>
                obtain ⟨X3r, n3r, c3r, hs⟩ := hcut
                have HSr := Lib.hid hs
                clear hs HS HXr HAn HAs HKy
                have HXq := Lib.hid (HX0.out.grew (HGc.out.trans HSr.out.gat.grew))
                obtain ⟨xl, x0, x1, x2, x3, x4, x5⟩ := nm_in HXq.out
                go_wp2_with fail
                clear xl x0 x1 x2 x3 x4 x5 HXq
                go_loopw [96] (fun i wr => LatO wk bp tl O o KK F f css (.slice X3r n3r c3r) (.slice Xw nw cw) l.length i wr) (fun i _ => l.length - (intOf i).toNat)
                case atStart => exact ⟨0, m, P, p, Nat.zero_le _, by omega, rfl, HSr.out⟩
                case round =>
                  obtain ⟨q, m, P, p, hq, hm, rfl, hs⟩ := hrel
                  have HS := Lib.hid hs
                  clear hs HSr
                  by_cases hlt : q < l.length
                  · obtain ⟨b7, o7, A1, a1, B1, y1, C1, z1, hD7, hb7, g0, g1, g2, g3, g4, r1, r2, r3⟩ := lasR_at (rD.grew (HG0.out.trans (HGc.out.trans HS.out.gat.grew))) hlt
                    subst hD7
                    have HR1 := Lib.hid r1
                    have HR3 := Lib.hid r3
                    clear r1 r2 r3
                    have HK1 : Hid (l[q].keys.length ≤ 3000) := Lib.hid (hks _ (List.getElem_mem hlt))
                    have HK3 : Hid (l[q].rest.length ≤ 1000000) := Lib.hid (hlr _ (List.getElem_mem hlt))
                    generalize l[q] = x at *
                    have HXr := Lib.hid (HX0.out.grew (HGc.out.trans HS.out.gat.grew))
                    have hsum : IntKind.i64.wrap ((sc.length : Int) + (q : Int)) = (sc.length : Int) + (q : Int) := IntWalk.i64_in _ (by omega)
                    go_upto_region 25 with fail
                    have HLb : Hid (Blok (wr.alloc (.cells #[.int .i64 x.table, .int .i64 x.join, .slice A1 x.keys.length a1, .slice B1 x.scan.length y1, .slice C1 x.rest.length z1] 72)) wr.heap.size 72 #[.int .i64 x.table, .int .i64 x.join, .slice A1 x.keys.length a1, .slice B1 x.scan.length y1, .slice C1 x.rest.length z1]) := Lib.hid (Blok.new _ _ _ _ rfl)
                    have HGw : Hid (Grew wr (wr.alloc (.cells #[.int .i64 x.table, .int .i64 x.join, .slice A1 x.keys.length a1, .slice B1 x.scan.length y1, .slice C1 x.rest.length z1] 72))) := Lib.hid ((Grew.refl wr).alloc _)
                    clear hb7 g0 g1 g2 g3 g4
                    generalize (wr.alloc (.cells #[.int .i64 x.table, .int .i64 x.join, .slice A1 x.keys.length a1, .slice B1 x.scan.length y1, .slice C1 x.rest.length z1] 72)) = w5 at *
                    generalize wr.heap.size = lb at *
                    have HS5 := Lib.hid (HS.out.on HGw.out)
                    obtain ⟨xs, hxs0⟩ := HS5.out.prb
                    have HXs := Lib.hid hxs0
                    clear hxs0 HS
                    have HC1 : Hid (∀ W, Grew wr W → Calls Try.prog 44 #[.slice A1 x.keys.length a1] W (CloF W)) := Lib.hid fun W hW => clone_edP x.keys A1 a1 (by have := HK1.out; omega) W (HR1.out.grew hW)
                    have HC3 : Hid (∀ W, Grew wr W → Calls Try.prog 38 #[.slice C1 x.rest.length z1] W (CloF W)) := Lib.hid fun W hW => (clone_ex x.rest C1 z1 HK3.out W W (Grew.refl W) (HR3.out.grew hW)).mono fun e w' ⟨A2, k2, q1, q2, _⟩ => ⟨A2, _, k2, q1, q2⟩
                    have hS0 : Blok w5.drew bp 51 #[.slice O tl.length o, .slice F KK.length f, .slice none 0 0, .slice X3r n3r c3r, .slice P m p, .slice Xw nw cw] ∧ Blok w5.drew bx 37 #[.int .i64 core, .slice A sc.length k, .slice B es.length j, .slice C rs.length c, .slice (some ⟨b7, o7, none⟩) l.length d, .slice E wh.length en] ∧ Blok w5.drew lb 72 #[.int .i64 x.table, .int .i64 x.join, .slice A1 x.keys.length a1, .slice B1 x.scan.length y1, .slice C1 x.rest.length z1] := ⟨HS5.out.plan.grew (Grew.refl w5).drew, (HXr.out.grew HGw.out).grew (Grew.refl w5).drew, HLb.out.grew (Grew.refl w5).drew⟩
                    have HSd := Lib.hid (HS5.out.on (Grew.refl w5).drew)
                    have HXd := Lib.hid (own_grewE HXs.out (Grew.refl w5).drew)
                    have HGd2 := Lib.hid (HGw.out.trans (Grew.refl w5).drew)
                    clear HLb HR1 HR3 HK1 HK3
                    refine wp_region_tail (fun W => Blok W bp 51 #[.slice O tl.length o, .slice F KK.length f, .slice none 0 0, .slice X3r n3r c3r, .slice P m p, .slice Xw nw cw] ∧ Blok W bx 37 #[.int .i64 core, .slice A sc.length k, .slice B es.length j, .slice C rs.length c, .slice (some ⟨b7, o7, none⟩) l.length d, .slice E wh.length en] ∧ Blok W lb 72 #[.int .i64 x.table, .int .i64 x.join, .slice A1 x.keys.length a1, .slice B1 x.scan.length y1, .slice C1 x.rest.length z1]) 18 2 rfl (by kernel_rfl) ?_
                    generalize w5.drew = w6 at *
                    refine tail_take 0 (v := ?_) rfl (by kernel_rfl) (by kernel_rfl) (by kernel_rfl) (by kernel_rfl) (fun _ _ _ h => h) (by rfl) ?_ hS0 ?_
                    rotate_left
                    · (intro W hW; go_simp; with_reducible rfl)
                    refine tail_norm (a' := ?_) ?_ ?_
                    rotate_left
                    · (go_simp; with_reducible rfl)
                    refine tail_take 1 (v := ?_) rfl (by kernel_rfl) (by kernel_rfl) (by kernel_rfl) (by kernel_rfl) (fun _ _ _ h => h) (by rfl) ?_ hS0 ?_
                    rotate_left
                    · (intro W hW; obtain ⟨pl, p0, p1, p2, p3, p4, p5⟩ := pl_in hW.1; go_simp; with_reducible rfl)
                    refine tail_norm (a' := ?_) ?_ ?_
                    rotate_left
                    · (go_simp; with_reducible rfl)
                    refine tail_take 2 (v := ?_) rfl (by kernel_rfl) (by kernel_rfl) (by kernel_rfl) (by kernel_rfl) (fun _ _ _ h => h) (by rfl) ?_ hS0 ?_
                    rotate_left
                    · (intro W hW; go_simp; with_reducible rfl)
                    refine tail_norm (a' := ?_) ?_ ?_
                    rotate_left
                    · (go_simp; with_reducible rfl)
                    refine tail_take 3 (v := ?_) rfl (by kernel_rfl) (by kernel_rfl) (by kernel_rfl) (by kernel_rfl) (fun _ _ _ h => h) (by rfl) ?_ hS0 ?_
                    rotate_left
                    · (intro W hW; obtain ⟨xl, x0, x1, x2, x3, x4, x5⟩ := nm_in hW.2.1; go_simp; with_reducible rfl)
                    refine tail_norm (a' := ?_) ?_ ?_
                    rotate_left
                    · (go_simp; with_reducible rfl)
                    refine tail_take 4 (v := ?_) rfl (by kernel_rfl) (by kernel_rfl) (by kernel_rfl) (by kernel_rfl) (fun _ _ _ h => h) (by rfl) ?_ hS0 ?_
                    rotate_left
                    · (intro W hW; go_simp; with_reducible rfl)
                    refine tail_norm (a' := ?_) ?_ ?_
                    rotate_left
                    · (go_simp; with_reducible rfl)
                    refine tail_take 5 (v := ?_) rfl (by kernel_rfl) (by kernel_rfl) (by kernel_rfl) (by kernel_rfl) (fun _ _ _ h => h) (by rfl) ?_ hS0 ?_
                    rotate_left
                    · (intro W hW; go_simp; with_reducible rfl)
                    refine tail_norm (a' := ?_) ?_ ?_
                    rotate_left
                    · (go_simp; with_reducible rfl)
                    refine tail_take 6 (v := ?_) rfl (by kernel_rfl) (by kernel_rfl) (by kernel_rfl) (by kernel_rfl) (fun _ _ _ h => h) (by rfl) ?_ hS0 ?_
                    rotate_left
                    · (intro W hW; go_simp; with_reducible rfl)
                    refine tail_norm (a' := ?_) ?_ ?_
                    rotate_left
                    · (go_simp; with_reducible rfl)
                    refine tail_take 7 (v := ?_) rfl (by kernel_rfl) (by kernel_rfl) (by kernel_rfl) (by kernel_rfl) (fun _ _ _ h => h) (by rfl) ?_ hS0 ?_
                    rotate_left
                    · (intro W hW; go_simp; with_reducible rfl)
                    refine tail_norm (a' := ?_) ?_ ?_
                    rotate_left
                    · (go_simp; with_reducible rfl)
                    refine tail_take 8 (v := ?_) rfl (by kernel_rfl) (by kernel_rfl) (by kernel_rfl) (by kernel_rfl) (fun _ _ _ h => h) (by rfl) ?_ hS0 ?_
                    rotate_left
                    · (intro W hW; obtain ⟨yl, y0, y1, y2, y3, y4⟩ := l5_in hW.2.2; go_simp; with_reducible rfl)
                    refine tail_norm (a' := ?_) ?_ ?_
                    rotate_left
                    · (go_simp; with_reducible rfl)
                    refine tail_take 9 (v := ?_) rfl (by kernel_rfl) (by kernel_rfl) (by kernel_rfl) (by kernel_rfl) (fun _ _ _ h => h) (by rfl) ?_ hS0 ?_
                    rotate_left
                    · (intro W hW; go_simp; with_reducible rfl)
                    refine tail_norm (a' := ?_) ?_ ?_
                    rotate_left
                    · (go_simp; with_reducible rfl)
                    refine tail_take 10 (v := ?_) rfl (by kernel_rfl) (by kernel_rfl) (by kernel_rfl) (by kernel_rfl) (fun _ _ _ h => h) (by rfl) ?_ hS0 ?_
                    rotate_left
                    · (intro W hW; obtain ⟨yl, y0, y1, y2, y3, y4⟩ := l5_in hW.2.2; go_simp; with_reducible rfl)
                    refine tail_norm (a' := ?_) ?_ ?_
                    rotate_left
                    · (go_simp; with_reducible rfl)
                    refine tail_take 12 (v := ?_) rfl (by kernel_rfl) (by kernel_rfl) (by kernel_rfl) (by kernel_rfl) (fun _ _ _ h => h) (by rfl) ?_ hS0 ?_
                    rotate_left
                    · (intro W hW; go_simp; with_reducible rfl)
                    refine tail_norm (a' := ?_) ?_ ?_
                    rotate_left
                    · (go_simp; with_reducible rfl)
                    refine tail_take 13 (v := ?_) rfl (by kernel_rfl) (by kernel_rfl) (by kernel_rfl) (by kernel_rfl) (fun _ _ _ h => h) (by rfl) ?_ hS0 ?_
                    rotate_left
                    · (intro W hW; obtain ⟨yl, y0, y1, y2, y3, y4⟩ := l5_in hW.2.2; go_simp; with_reducible rfl)
                    refine tail_norm (a' := ?_) ?_ ?_
                    rotate_left
                    · (go_simp; with_reducible rfl)
                    refine tail_call 11 (by kernel_rfl) (by kernel_rfl) rfl (by rfl) (fun K hK => ?_)
                    go_simp
                    go_wp2_with fail
                    refine (HC1.out _ HGd2.out).mono ?_
                    rintro e8 w8 ⟨X9, n9, c9, rfl, hg8⟩
                    have HS8 := Lib.hid (HSd.out.on hg8)
                    have HX8 := Lib.hid (own_grewE HXd.out hg8)
                    have HG8 := Lib.hid (HGd2.out.trans hg8)
                    have hS8 : Blok w8 bp 51 #[.slice O tl.length o, .slice F KK.length f, .slice none 0 0, .slice X3r n3r c3r, .slice P m p, .slice Xw nw cw] ∧ Blok w8 bx 37 #[.int .i64 core, .slice A sc.length k, .slice B es.length j, .slice C rs.length c, .slice (some ⟨b7, o7, none⟩) l.length d, .slice E wh.length en] ∧ Blok w8 lb 72 #[.int .i64 x.table, .int .i64 x.join, .slice A1 x.keys.length a1, .slice B1 x.scan.length y1, .slice C1 x.rest.length z1] := ⟨hS0.1.grew hg8, hS0.2.1.grew hg8, hS0.2.2.grew hg8⟩
                    clear hg8
                    go_wp2_with fail
                    refine hK.out _ _ hS8 ?_
                    clear hK K
                    refine tail_call 14 (by kernel_rfl) (by kernel_rfl) rfl (by rfl) (fun K hK => ?_)
                    go_simp
                    go_wp2_with fail
                    refine (HC3.out _ HG8.out).mono ?_
                    rintro e9 w9 ⟨Y9, m9, d9, rfl, hg9⟩
                    have HS9 := Lib.hid (HS8.out.on hg9)
                    have HX9 := Lib.hid (own_grewE HX8.out hg9)
                    have hS9 : Blok w9 bp 51 #[.slice O tl.length o, .slice F KK.length f, .slice none 0 0, .slice X3r n3r c3r, .slice P m p, .slice Xw nw cw] ∧ Blok w9 bx 37 #[.int .i64 core, .slice A sc.length k, .slice B es.length j, .slice C rs.length c, .slice (some ⟨b7, o7, none⟩) l.length d, .slice E wh.length en] ∧ Blok w9 lb 72 #[.int .i64 x.table, .int .i64 x.join, .slice A1 x.keys.length a1, .slice B1 x.scan.length y1, .slice C1 x.rest.length z1] := ⟨hS8.1.grew hg9, hS8.2.1.grew hg9, hS8.2.2.grew hg9⟩
                    clear hg9
                    go_wp2_with fail
                    refine hK.out _ _ hS9 ?_
                    clear hK K
                    refine tail_take 15 (v := ?_) rfl (by kernel_rfl) (by kernel_rfl) (by kernel_rfl) (by kernel_rfl) (fun _ _ _ h => h) (by rfl) ?_ hS9 ?_
                    rotate_left
                    · (intro W hW; go_simp; with_reducible rfl)
                    refine tail_norm (a' := ?_) ?_ ?_
                    rotate_left
                    · (go_simp; with_reducible rfl)
                    refine tail_call 16 (by kernel_rfl) (by kernel_rfl) rfl (by rfl) (fun K hK => ?_)
                    go_simp
                    go_wp2_with fail
                    try rw [hsum]
                    obtain ⟨vt, hvt⟩ : ∃ vt : Int, vt = (sc.length : Int) + (q : Int) := ⟨_, rfl⟩
                    rw [← hvt]
                    have hgl : Grew w9 (w9.alloc (.cells #[.int .i64 vt, .int .i64 x.join, .slice X9 n9 c9, .slice Y9 m9 d9] 95)) := (Grew.refl w9).alloc _
                    have hS10 : Blok (w9.alloc (.cells #[.int .i64 vt, .int .i64 x.join, .slice X9 n9 c9, .slice Y9 m9 d9] 95)) bp 51 #[.slice O tl.length o, .slice F KK.length f, .slice none 0 0, .slice X3r n3r c3r, .slice P m p, .slice Xw nw cw] ∧ Blok (w9.alloc (.cells #[.int .i64 vt, .int .i64 x.join, .slice X9 n9 c9, .slice Y9 m9 d9] 95)) bx 37 #[.int .i64 core, .slice A sc.length k, .slice B es.length j, .slice C rs.length c, .slice (some ⟨b7, o7, none⟩) l.length d, .slice E wh.length en] ∧ Blok (w9.alloc (.cells #[.int .i64 vt, .int .i64 x.join, .slice X9 n9 c9, .slice Y9 m9 d9] 95)) lb 72 #[.int .i64 x.table, .int .i64 x.join, .slice A1 x.keys.length a1, .slice B1 x.scan.length y1, .slice C1 x.rest.length z1] := ⟨hS9.1.grew hgl, hS9.2.1.grew hgl, hS9.2.2.grew hgl⟩
                    have HR10 : Hid (Row (w9.alloc (.cells #[.int .i64 vt, .int .i64 x.join, .slice X9 n9 c9, .slice Y9 m9 d9] 95)) (some ⟨w9.heap.size, 0, none⟩) [.int .i64 vt, .int .i64 x.join, .slice X9 n9 c9, .slice Y9 m9 d9]) := Lib.hid (row_new w9 95 w9.heap.size #[.int .i64 vt, .int .i64 x.join, .slice X9 n9 c9, .slice Y9 m9 d9] rfl)
                    have HS10 := Lib.hid (HS9.out.on hgl)
                    have HX10 := Lib.hid (own_grewE HX9.out hgl)
                    clear hgl
                    refine hK.out _ _ hS10 ?_
                    clear hK K
                    generalize (w9.alloc (.cells #[.int .i64 vt, .int .i64 x.join, .slice X9 n9 c9, .slice Y9 m9 d9] 95)) = w10 at *
                    refine tail_call 17 (by kernel_rfl) (by kernel_rfl) rfl (by rfl) (fun K hK => ?_)
                    refine wp_appB (.tmp 102) (.tmp 117) 49 95 4 rfl wk.heap.size (.agg #[.int .i64 0, .int .i64 0, .slice none 0 0, .slice none 0 0]) 64 Try.underlying49 infoPb rfl (by decide) (by decide) _ m xs rfl HX10.out (some ⟨w9.heap.size, 0, none⟩) 1 1 [.int .i64 vt, .int .i64 x.join, .slice X9 n9 c9, .slice Y9 m9 d9] rfl rfl HR10.out (by simp [Value.oneCell']) (by omega) HS10.out.gat.grew.size ?_
                    intro A11 c11 w11 ho11 hg11
                    have HO11 := Lib.hid ho11
                    have HG11 := Lib.hid hg11
                    have hS11 : Blok w11 bp 51 #[.slice O tl.length o, .slice F KK.length f, .slice none 0 0, .slice X3r n3r c3r, .slice P m p, .slice Xw nw cw] ∧ Blok w11 bx 37 #[.int .i64 core, .slice A sc.length k, .slice B es.length j, .slice C rs.length c, .slice (some ⟨b7, o7, none⟩) l.length d, .slice E wh.length en] ∧ Blok w11 lb 72 #[.int .i64 x.table, .int .i64 x.join, .slice A1 x.keys.length a1, .slice B1 x.scan.length y1, .slice C1 x.rest.length z1] := ⟨hS10.1.grown hg11 fun e => own_notblk HX10.out hS10.1 nePPl bp e rfl, hS10.2.1.grown hg11 fun e => own_notblk HX10.out hS10.2.1 nePNm bx e rfl, hS10.2.2.grown hg11 fun e => own_notblk HX10.out hS10.2.2 nePLa lb e rfl⟩
                    clear ho11 hg11
                    refine hK.out _ _ hS11 ?_
                    clear hK K
                    refine tail_done (by kernel_rfl) ?_
                    have HE := Lib.hid (HS10.out.probe HX10.out HO11.out HG11.out)
                    obtain ⟨pl, p0, p1, p2, p3, p4, p5⟩ := pl_in hS11.1
                    have t4 := hS11.1.thaw 4
                    clear hS0 hS8 hS9 hS10 hS11 HSd HXd HS8 HX8 HS9 HX9 HR10 HS10 HX10 HO11 HG11 HXs HS5 hvt HC1 HC3
                    refine wpAny_take (i := 18) (v := ?_) rfl (by kernel_rfl) (by kernel_rfl) (by kernel_rfl) (fun _ _ _ h => h) (Or.inl ⟨by rfl, ?_⟩) ?_
                    rotate_left
                    · (intro w; go_simp; with_reducible rfl)
                    refine wpAny_ready (rs := [19]) (by kernel_rfl) (by simp) ?_
                    refine AllReady.cons rfl (fun K hK => ?_) AllReady.nil
                    have HK := Lib.hid hK
                    clear hK
                    go_simp
                    refine HK.out _ _ ?_
                    clear HK K
                    refine ⟨by kernel_rfl, ?_⟩
                    clear pl p0 p1 p2 p3 p4 p5 t4
                    generalize w11.setCell ⟨bp, 4, none⟩ (.slice A11 (m + 1) c11) = w12 at *
                    go_wp2_with fail
                    exact ⟨⟨q + 1, m + 1, A11, c11, by omega, by omega, by go_num, HE.out⟩, by simp only [intOf]; omega⟩
                  · obtain rfl : q = l.length := by omega
                    have hkl : KK.length ≤ 1000 := by rw [← HKK.out]; exact Nat.le_trans (keptP_len _ _) hfs
                    have hn : needsA KK tl (sc.length + l.length) (sc.length + l.length) = nd := by rw [← HKK.out, ← HALe.out]; exact HNd.out
                    have HPp : Hid (∀ W, Grew wr W → Calls Try.prog 45 #[.agg #[.int .i64 core, .slice A sc.length k, .slice B es.length j, .slice C rs.length c, .slice D l.length d, .slice E wh.length en], .agg #[.slice O tl.length o, .slice F KK.length f, .slice none 0 0, .slice X3r n3r c3r, .slice P m p, .slice Xw nw cw]] W (PipF W nd)) := Lib.hid fun W hW => by
                      have hg := HG0.out.trans (HGc.out.trans (HS.out.gat.grew.trans hW))
                      have := ppipes_any core sc l KK tl O o F f (.slice none 0 0) (.slice X3r n3r c3r) (.slice P m p) (.slice Xw nw cw) A k B es.length j C rs.length c D d E wh.length en W hM hkl hsc hls (rA.grew hg) (rD.grew hg) (HS.out.on hW).gat.done (own_rowI (HS.out.on hW).ord)
                      rw [hn] at this
                      exact this
                    clear hkl hn
                    have HXr := Lib.hid (HX0.out.grew (HGc.out.trans HS.out.gat.grew))
                    have HRr := Lib.hid (HR0.out.grew (HGc.out.trans HS.out.gat.grew))
                    have HNe : Hid (br ≠ bp) := Lib.hid (by have h1 := HR0.out.lt; have h2 := HGc.out.size; have h3 := HS.out.low; omega)
                    obtain ⟨xl, x0, x1, x2, x3, x4, x5⟩ := nm_in HXr.out
                    obtain ⟨pl, p0, p1, p2, p3, p4, p5⟩ := pl_in HS.out.plan
                    have HGr := Lib.hid (HG0.out.trans (HGc.out.trans HS.out.gat.grew))
                    go_upto_region 28 with (go_at_call 45; (with_reducible refine (HPp.out _ (Grew.refl _)).mono ?_); rintro e5 w5 ⟨X5, k5, css5, rfl, hg5, ho5, hl5⟩; have HS5 := Lib.hid (HS.out.on hg5); have HR5 := Lib.hid (HRr.out.grew hg5); have HG5 := Lib.hid (HGr.out.trans hg5); have HO5 := Lib.hid (TRow.own ho5); have HL5 := Lib.hid hl5; clear hg5 ho5 hl5 xl x0 x1 x2 x3 x4 x5 pl p0 p1 p2 p3 p4 p5; obtain ⟨pl, p0, p1, p2, p3, p4, p5⟩ := pl_in HS5.out.plan; have t2 := HS5.out.plan.thaw 2)
                    have HP6 : Hid (Blok (w5.setCell ⟨bp, 2, none⟩ (.slice X5 nd.length k5)) bp 51 #[.slice O tl.length o, .slice F KK.length f, .slice X5 nd.length k5, .slice X3r n3r c3r, .slice P m p, .slice Xw nw cw]) := Lib.hid (by have := HS5.out.plan.set 2 (.slice X5 nd.length k5); simpa using this)
                    have HR6 : Hid (Blok (w5.setCell ⟨bp, 2, none⟩ (.slice X5 nd.length k5)) br 51 #[.slice none 0 0, .slice none 0 0, .slice none 0 0, .slice none 0 0, .slice none 0 0, .slice none 0 0]) := Lib.hid (HR5.out.far HNe.out _)
                    have HG6 : Hid (Grew w (w5.setCell ⟨bp, 2, none⟩ (.slice X5 nd.length k5))) := Lib.hid (HG5.out.setCell (show w.heap.size ≤ bp by have h1 := HG0.out.size; have h2 := HGc.out.size; have h3 := HS5.out.low; omega) _)
                    have HO6 := Lib.hid ((TRow.own HS5.out.ord).apart ((Turns.refl w5 bp).set 2 (.slice X5 nd.length k5)) HS5.out.plan neIPl)
                    have HL6 := Lib.hid (pips_apart HL5.out HO5.out ((Turns.refl w5 bp).set 2 (.slice X5 nd.length k5)) HS5.out.plan neIPl nePiPl)
                    clear pl p0 p1 p2 p3 p4 p5 t2 HS5 HR5 HG5 HO5 HL5 HPp
                    generalize w5.setCell ⟨bp, 2, none⟩ (.slice X5 nd.length k5) = w6 at *
                    obtain ⟨pl, p0, p1, p2, p3, p4, p5⟩ := pl_in HP6.out
                    obtain ⟨rl, m0, m1, m2, m3, m4, m5⟩ := pl_in HR6.out
                    have t0 := HR6.out.thaw 0
                    have t1 := HR6.out.thaw 1
                    have t2 := HR6.out.thaw 2
                    have t3 := HR6.out.thaw 3
                    have t4 := HR6.out.thaw 4
                    have t5 := HR6.out.thaw 5
                    have HB7 := Lib.hid (plan_blok6 HR6.out (.slice O tl.length o) (.slice F KK.length f) (.slice X5 nd.length k5) (.slice X3r n3r c3r) (.slice P m p) (.slice Xw nw cw))
                    have HG7 := Lib.hid (plan_set6 HG6.out HBr2.out (.slice O tl.length o) (.slice F KK.length f) (.slice X5 nd.length k5) (.slice X3r n3r c3r) (.slice P m p) (.slice Xw nw cw))
                    have HO7 := Lib.hid (HO6.out.apart (turns6 w6 br (.slice O tl.length o) (.slice F KK.length f) (.slice X5 nd.length k5) (.slice X3r n3r c3r) (.slice P m p) (.slice Xw nw cw)) HR6.out neIPl).plain
                    have HL7 := Lib.hid (pips_apart HL6.out.1 HL6.out.2 (turns6 w6 br (.slice O tl.length o) (.slice F KK.length f) (.slice X5 nd.length k5) (.slice X3r n3r c3r) (.slice P m p) (.slice Xw nw cw)) HR6.out neIPl nePiPl)
                    go_wp2_with fail
                    clear pl p0 p1 p2 p3 p4 p5 rl m0 m1 m2 m3 m4 m5 t0 t1 t2 t3 t4 t5 HP6 HR6 HG6 HO6 HL6
                    generalize ((((((w6.setCell ⟨br, 0, none⟩ (.slice O tl.length o)).setCell ⟨br, 1, none⟩ (.slice F KK.length f)).setCell ⟨br, 2, none⟩ (.slice X5 nd.length k5)).setCell ⟨br, 3, none⟩ (.slice X3r n3r c3r)).setCell ⟨br, 4, none⟩ (.slice P m p)).setCell ⟨br, 5, none⟩ (.slice Xw nw cw)) = w7 at *
                    obtain ⟨rl, m0, m1, m2, m3, m4, m5⟩ := pl_in HB7.out
                    refine bodyPost_ret (v := .agg #[.slice O tl.length o, .slice F KK.length f, .slice X5 nd.length k5, .slice X3r n3r c3r, .slice P m p, .slice Xw nw cw]) (by simp [results, Try.results14, go_sem, m0, m1, m2, m3, m4, m5]) rfl ?_
                    exact ⟨O, o, ⟨F, KK.length, f⟩, ⟨X3r, n3r, c3r⟩, ⟨P, m, p⟩, ⟨Xw, nw, cw⟩, X5, k5, rfl, HG7.out, ⟨css5, HL7.out.1.map fun x ds hx => by obtain ⟨s, t', B', k', e, h⟩ := hx; exact ⟨s, t', B', k', e, h.plain⟩, HL7.out.2.plain⟩, HO7.out⟩
end Go.Proofs.Ytoaciliojdaoaaa

/- Layer 32: what the program's pipes need is what the pure plan says. No condition. -/
namespace Go.Proofs.Ytoaciliojdaoaaa

theorem needsA_at {L : List Fv} {order : List Int} {cnt t : Nat} (h : t < cnt) : edgeAt (needsA L order cnt cnt) t = needS L order cnt t := by
  rw [edgeAt_eq (by rw [needsA_len]; exact h)]
  simp [needsA]
theorem needS_mem {L : List Fv} {order : List Int} {cnt t : Nat} {x : Int} : x ∈ needS L order cnt t ↔ if order.head? = some (t : Int) then ∃ z : Nat, x = (z : Int) ∧ z < cnt ∧ z ≠ t else ∃ v ∈ L, v.t = (t : Int) ∧ v.f = x := by
  unfold needS
  rw [compact_sort, setI_mem]
  unfold needL
  by_cases c : order.head? = some (t : Int)
  · rw [if_pos c, if_pos c, List.mem_filter, risI_mem]
    constructor
    · rintro ⟨⟨h1, h2⟩, h3⟩
      have h3 : x ≠ (t : Int) := by simpa using h3
      exact ⟨x.toNat, by omega, by omega, by omega⟩
    · rintro ⟨z, rfl, h1, h2⟩
      refine ⟨⟨by omega, by omega⟩, ?_⟩
      have : (z : Int) ≠ (t : Int) := by omega
      simpa using this
  · rw [if_neg c, if_neg c, filtP_mem]
/-- The filters that are kept, as the document has them. -/
def keptF (AL : List Fl) (fs : List Fv) : List Fl := AL.filter fun y => (keptP (AL.map fvF) fs).any (sameFv (fvF y))
theorem keptF_sub {AL : List Fl} {fs : List Fv} : ∀ y ∈ keptF AL fs, y ∈ AL := fun _ h => (List.mem_filter.1 h).1
theorem keptF_mem {AL : List Fl} {fs : List Fv} {v : Fv} (h : v ∈ keptP (AL.map fvF) fs) : ∃ y ∈ keptF AL fs, fvF y = v := by
  have h2 := (List.mem_filter.1 h).2
  obtain ⟨u, hu, e⟩ := List.any_eq_true.1 h2
  obtain ⟨y, hy, rfl⟩ := List.mem_map.1 hu
  have e := sameFv_eq.1 e
  refine ⟨y, List.mem_filter.2 ⟨hy, List.any_eq_true.2 ⟨v, h, sameFv_eq.2 e.symm⟩⟩, e.symm⟩
theorem keptF_in {AL : List Fl} {fs : List Fv} {y : Fl} (h : y ∈ keptF AL fs) : fvF y ∈ keptP (AL.map fvF) fs := by
  obtain ⟨u, hu, e⟩ := List.any_eq_true.1 (List.mem_filter.1 h).2
  rw [sameFv_eq.1 e]
  exact hu
theorem pipN_of (core : Nat) (late : List La) (order : List Int) (AL : List Fl) (fs : List Fv) : PipN core late order (keptF AL fs) (needsA (keptP (AL.map fvF) fs) order (core + late.length) (core + late.length)) := by
  refine ⟨needsA_len _ _ _ _, fun t ht x => ?_⟩
  rw [needsA_len] at ht
  rw [needsA_at ht, needS_mem, needsA_len]
  by_cases c : order.head? = some (t : Int)
  · rw [if_pos c, if_pos c]
  · rw [if_neg c, if_neg c]
    constructor
    · rintro ⟨v, hv, h1, h2⟩
      obtain ⟨y, hy, rfl⟩ := keptF_mem hv
      exact ⟨y, hy, h1, h2⟩
    · rintro ⟨y, hy, h1, h2⟩
      exact ⟨fvF y, keptF_in hy, h1, h2⟩
theorem tabsP_all {n : Nat} {order : List Int} : ∀ z : Nat, z < n → (z : Int) ∈ tabsP n order := by
  intro z hz
  unfold tabsP
  split
  · rename_i h
    exact h.1 z hz
  · exact (risI_mem n z).2 ⟨by omega, by omega⟩
/-- Few needs, each of a table that is there. -/
theorem needS_len {L : List Fv} {order : List Int} {cnt t m : Nat} (h1 : cnt ≤ m) (h2 : L.length ≤ m) : (needS L order cnt t).length ≤ m := by
  unfold needS
  rw [compact_sort]
  refine Nat.le_trans (setI_len _) ?_
  unfold needL
  split
  · refine Nat.le_trans (List.length_filter_le _ _) ?_
    rw [risI_len]
    exact h1
  · have := filtP_len L t L.length
    unfold rcP
    rw [List.length_map]
    omega
theorem needS_in {L : List Fv} {order : List Int} {cnt t : Nat} (hL : ∀ v ∈ L, 0 ≤ v.f ∧ v.f < cnt) : ∀ x ∈ needS L order cnt t, 0 ≤ x ∧ x < cnt := by
  intro x hx
  have h := needS_mem.1 hx
  by_cases c : order.head? = some (t : Int)
  · rw [if_pos c] at h
    obtain ⟨z, rfl, h1, _⟩ := h
    omega
  · rw [if_neg c] at h
    obtain ⟨v, hv, _, rfl⟩ := h
    exact hL v hv
theorem needsA_each {L : List Fv} {order : List Int} {cnt m : Nat} {e : List Int} (h : e ∈ needsA L order cnt m) : ∃ t : Nat, t < m ∧ e = needS L order cnt t := by
  obtain ⟨t, ht, rfl⟩ := List.mem_map.1 h
  exact ⟨t, List.mem_range.1 ht, rfl⟩
end Go.Proofs.Ytoaciliojdaoaaa

namespace Go.Proofs.Ytoaciliojdaoaaa
open Go.RowKit

theorem allP_nodesR {sr : List Fr} (hn : ∀ f ∈ sr, f.on.nodes ≤ 200) (i : Nat) : ∀ y ∈ allP sr i, y.nodes ≤ 200 := by
  intro y hy
  unfold allP at hy
  obtain ⟨l, hl, hyl⟩ := List.mem_flatten.1 hy
  obtain ⟨f, hf, rfl⟩ := List.mem_map.1 hl
  exact Nat.le_trans (partsX_nodes _ _ hyl) (hn f (List.mem_of_mem_take (List.mem_of_mem_drop hf)))
theorem allX_nodesR {sr : List Fr} {wh : Ex} (hn : ∀ f ∈ sr, f.on.nodes ≤ 200) (hw : wh.nodes ≤ 200) (i : Nat) : ∀ y ∈ allX sr wh i, y.nodes ≤ 200 := by
  intro y hy
  rcases List.mem_append.1 hy with h | h
  · exact allP_nodesR hn i y h
  · exact Nat.le_trans (partsX_nodes _ _ h) hw
theorem allX_lenR {sr : List Fr} {wh : Ex} (hs : sr.length ≤ 12) (hn : ∀ f ∈ sr, f.on.nodes ≤ 200) (hw : wh.nodes ≤ 200) (i : Nat) : (allX sr wh i).length ≤ 2600 := by
  have h1 := allP_len sr hn i
  have h2 := Nat.le_trans (partsX_len wh) hw
  unfold allX
  rw [List.length_append]
  omega
structure NmB (x : Nm) : Prop where
  edges : x.edges.length ≤ 3000
  rest : x.rest.length ≤ 100000
  node : ∀ y ∈ x.rest, y.nodes ≤ 1000000
  wh : x.wh.length ≤ 1000000
  scan : ∀ y ∈ x.scan, y.length ≤ 1000000
  keys : ∀ y ∈ x.late, y.keys.length ≤ 3000
  lscan : ∀ y ∈ x.late, y.scan.length ≤ 1000000
  lrest : ∀ y ∈ x.late, y.rest.length ≤ 1000000
theorem late_small {sr : List Fr} (wh : Ex) (hn : ∀ f ∈ sr, f.on.nodes ≤ 200) : ∀ x ∈ (normX sr wh).late, x.scan.length ≤ 200 ∧ x.rest.length ≤ 200 := by
  intro y hm
  change y ∈ latesX _ _ _ at hm
  obtain ⟨i, hi, rfl⟩ := List.mem_map.1 hm
  have hi' : coreN sr + i < sr.length := by have := List.mem_range.1 hi; omega
  have hfr := hn _ (List.getElem_mem hi')
  have e : sr.getD (coreN sr + i) default = sr[coreN sr + i] := by simp [List.getD, hi']
  rw [e]
  have h2 := partsX_len sr[coreN sr + i].on
  constructor
  · show (ltS _ _).length ≤ _
    unfold ltS
    have h1 := List.length_filter_le (fun x => !isK ((coreN sr + i : Nat) : Int) x && onlyT ((coreN sr + i : Nat) : Int) x) (partsX sr[coreN sr + i].on)
    omega
  · show (ltR _ _).length ≤ _
    unfold ltR
    have h1 := List.length_filter_le (fun x => !isK ((coreN sr + i : Nat) : Int) x && !onlyT ((coreN sr + i : Nat) : Int) x) (partsX sr[coreN sr + i].on)
    omega
theorem nmB_of {sr : List Fr} {wh : Ex} (hs : sr.length ≤ 12) (hn : ∀ f ∈ sr, f.on.nodes ≤ 200) (hw : wh.nodes ≤ 200) : NmB (normX sr wh) where
  edges := by
    have hal := allX_lenR hs hn hw (coreN sr)
    show (nE (coreN sr) _).length ≤ _
    unfold nE
    rw [List.length_map]
    have := List.length_filter_le (fun x => decide (whereI x (coreN sr) = 3)) (allX sr wh (coreN sr))
    omega
  rest := by
    have hal := allX_lenR hs hn hw (coreN sr)
    show (nR (coreN sr) _).length ≤ _
    unfold nR
    have := List.length_filter_le (fun x => decide (whereI x (coreN sr) = 0)) (allX sr wh (coreN sr))
    omega
  node := fun y hy => by
    change y ∈ nR (coreN sr) _ at hy
    have := allX_nodesR hn hw (coreN sr) y (List.mem_filter.1 hy).1
    omega
  wh := by
    have hal := allX_lenR hs hn hw (coreN sr)
    show (nW (coreN sr) _).length ≤ _
    unfold nW
    have := List.length_filter_le (fun x => decide (whereI x (coreN sr) = 1)) (allX sr wh (coreN sr))
    omega
  scan := fun y hy => by
    change y ∈ nS (coreN sr) _ at hy
    obtain ⟨t, _, rfl⟩ := List.mem_map.1 hy
    have hal := allX_lenR hs hn hw (coreN sr)
    unfold nT
    have := List.length_filter_le (fun x => decide (whereI x (coreN sr) = 2) && onlyT (t : Int) x) (allX sr wh (coreN sr))
    omega
  keys := fun y hy => Nat.le_trans (n31_keys wh hn y hy) (by decide)
  lscan := fun y hy => Nat.le_trans (late_small wh hn y hy).1 (by decide)
  lrest := fun y hy => Nat.le_trans (late_small wh hn y hy).2 (by decide)
/-- The needs of the pipes: as many as tables, each of a table that is there, few; the pipes go one after the other, the first table's behind all others; and one may go on. -/
structure NdP (n : Nat) (tl : List Int) (nd : List (List Int)) : Prop where
  len : nd.length = n
  few : ∀ e ∈ nd, e.length ≤ 30
  wf : wfG nd
  all : (ordS nd n).1.length = n
  last : ∀ dr : Nat, tl.head? = some (dr : Int) → dr < n → (ordS nd n).1[n - 1]? = some dr
  one : ∀ d : List Bool, (∃ t, t < n ∧ thB d t = false) ↔ ∃ t, t < n ∧ rdyN nd d t = true
theorem ndP_of {core : Nat} {l : List La} {cl : Int → Int → Int} {tl : List Int} {fs : List Fv} (hn : core + l.length ≤ 12) (hf : fs.length ≤ 20) (ho : ∀ z : Nat, z < core → (z : Int) ∈ tl) (hk : ∀ x ∈ l, x.keys.length ≤ 3000) :
    NdP (core + l.length) tl (needsA (keptP ((allI cl core l tl).map fvF) fs) tl (core + l.length) (core + l.length)) := by
  have hlen := needsA_len (keptP ((allI cl core l tl).map fvF) fs) tl (core + l.length) (core + l.length)
  have hp := pipN_of core l tl (allI cl core l tl) fs
  have hs : ∀ y ∈ keptF (allI cl core l tl) fs, y ∈ allI cl core l tl := keptF_sub
  have hkl := keptP_len ((allI cl core l tl).map fvF) fs
  have hend : ∀ v ∈ keptP ((allI cl core l tl).map fvF) fs, 0 ≤ v.f ∧ v.f < ((core + l.length : Nat) : Int) := fun v hv => by
    have h2 := (List.mem_filter.1 hv).2
    obtain ⟨u, hu, e⟩ := List.any_eq_true.1 h2
    obtain ⟨f, t, ef, et, h1, _⟩ := (good31 hk u hu).ends
    rw [sameFv_eq.1 e, ef]
    exact ⟨by omega, by omega⟩
  refine ⟨hlen, fun e he => ?_, fun e he x hx => ?_, ?_, fun dr hd hdn => ?_, fun d => ?_⟩
  · obtain ⟨t, _, rfl⟩ := needsA_each he
    exact needS_len (by omega) (by omega)
  · obtain ⟨t, _, rfl⟩ := needsA_each he
    have h := needS_in (cnt := core + l.length) hend x hx
    unfold wfI
    have h1 : IntKind.i64.min = -9223372036854775808 := by decide
    have h2 : IntKind.i64.max = 9223372036854775807 := by decide
    simp only [Lit.wf, h1, h2, Bool.and_eq_true, decide_eq_true_eq]
    omega
  · have := pip_order hs ho hp
    rw [hlen] at this
    exact this
  · have := pip_last hs ho hp hd (by rw [hlen]; exact hdn)
    rw [hlen] at this
    exact this
  · have := pip_one hs ho hp d
    rw [hlen] at this
    exact this
/-- The table that the order begins with. -/
theorem tabs_head {n : Nat} (order : List Int) (h : 0 < n) : ∃ dr : Nat, (tabsP n order).head? = some (dr : Int) ∧ dr < n := by
  have hin : ∀ x ∈ tabsP n order, 0 ≤ x ∧ x < (n : Int) := by
    intro x hx
    unfold tabsP at hx
    split at hx
    · rename_i hr
      exact (risI_mem n x).1 ((rightP_perm.1 hr).mem_iff.1 hx)
    · exact (risI_mem n x).1 hx
  have hl := tabsP_len n order
  cases htl : tabsP n order with
  | nil => rw [htl] at hl; simp at hl; omega
  | cons a t =>
    have := hin a (by rw [htl]; simp)
    exact ⟨a.toNat, by simp; omega, by omega⟩
theorem core_pos {sr : List Fr} (h : 0 < sr.length) : 0 < coreN sr := by
  cases sr with
  | nil => simp at h
  | cons f l => show 0 < 1 + coreGo l; omega
end Go.Proofs.Ytoaciliojdaoaaa
