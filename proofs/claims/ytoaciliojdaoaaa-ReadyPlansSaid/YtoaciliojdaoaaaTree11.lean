/- Layer 8: the document's columns and parts of an expression; the greatest depth and the sums, from all parts. Condition: expressions that lie in memory that is there. -/
import Derived.Test.YtoaciliojdaoaaaTree10
namespace Go.Proofs.Ytoaciliojdaoaaa
open Go.RowKit
attribute [local go_sem] more_cell more_frozen more_more more_setCell more_of_drew more_of_drewN lt_more le_more past_cell past_cell2 past_frozen past_frozen2 past_setCell past_setCell2 mid_cell mid_frozen mid_setCell
attribute [local go_sem ↓] Go.wp_at_zero Go.wp_at_succ

/-- Expressions in a row of this world, what is in them in memory that was there before. -/
def ExsU (u w : World) (A : Option Addr) (l : List Ex) : Prop := ∃ css, ListR (ExR (PRow u)) 9 l css ∧ Row w A css.flatten
theorem ExsU.exs {u w : World} {A : Option Addr} {l : List Ex} (h : ExsU u w A l) (g : Grew u w) : ExsR (PRow w) A l := by
  obtain ⟨css, h1, h2⟩ := h
  exact ⟨css, h1.map fun x cs hx => hx.grew g, h2⟩
theorem ExsU.grew {u w w' : World} {A : Option Addr} {l : List Ex} (h : ExsU u w A l) (g : Grew w w') : ExsU u w' A l := by
  obtain ⟨css, h1, h2⟩ := h
  exact ⟨css, h1, Row.grew h2 g⟩
theorem ExOwn.u {u w : World} {base : Nat} {A : Option Addr} {c : Nat} {l : List Ex} (h : ExOwn u w base A c l) : ExsU u w A l := by
  obtain ⟨css, h1, h2⟩ := h
  obtain ⟨A', c', e, h3⟩ := own_row h2
  injection e with e _ _
  subst e
  exact ⟨css, h1, h3⟩
theorem ExOwn.app {u w : World} {base : Nat} {A : Option Addr} {c : Nat} {l m : List Ex} {css dss : List (List Value)} (h : ListR (ExR (PRow u)) 9 l css) (k : ListR (ExR (PRow u)) 9 m dss)
    (ho : w.ownsRow base 27 9 (.slice A (l.length + m.length) c) (l.length + m.length) (css.flatten ++ dss.flatten)) : ExOwn u w base A c (l ++ m) := by
  refine ⟨css ++ dss, listR_append h k, ?_⟩
  rw [List.length_append, List.flatten_append]
  exact ho
def ColsF (u w : World) (l : List Ex) (e : Ending) (w' : World) : Prop := ∃ A k, e = .returned (.slice A l.length k) ∧ Grew w w' ∧ ExsU u w' A l
def RColsAt (u w : World) (T : TypeId) (cs : Array Value) (l : List Ex) (v i : Value) (wr : World) : Prop :=
  ∃ (j n : Nat) (A : Option Addr) (c : Nat), j ≤ l.length ∧ n = (colsE (l.take j)).length ∧ i = .int .i64 j ∧ v = .slice A n c ∧ ExOwn u wr (w.heap.size + 1) A c (colsE (l.take j)) ∧ Grew w wr ∧ Blok wr w.heap.size T cs
theorem colsE_len (l : List Ex) : (colsE l).length ≤ nodesL l := by
  induction l with
  | nil => simp [colsE]
  | cons y l ih => simp only [colsE, nodesL, List.length_append]; have := cols_len y; omega
theorem nodesL_cut (l : List Ex) (j : Nat) : nodesL (l.take j) ≤ nodesL l := by
  have e : nodesL l = nodesL (l.take j) + nodesL (l.drop j) := by rw [← nodesL_append, List.take_append_drop]
  omega
set_option maxHeartbeats 2000000 in
theorem rcols_ex (n : Nat) : ∀ (x : Ex), SizeOf.sizeOf x < n → ∀ (A : Option Addr) (k : Nat) (u w : World), x.nodes ≤ 100000 → Grew u w → ExsR (PRow u) A x.l →
    Calls Try.prog 50 #[exV x A k] w (ColsF u w x.cols) := by
  induction n with
  | zero => intro x hn; omega
  | succ n ih =>
    intro x hn A k u w hm hg ra
    by_cases hop : x.op = 15
    · rw [cols_in hop]
      have HX := Lib.hid (listR_single ra k)
      obtain ⟨op, tab, name, tt, cc, vk, vi, vs, l⟩ := x
      simp only [Ex.op] at hop
      subst hop
      clear ra ih hn hm hg
      unfold exV
      simp only [Ex.op, Ex.tab, Ex.name, Ex.t, Ex.c, Ex.vk, Ex.vi, Ex.vs, Ex.l]
      go_enter Try.func50, Try.ntmps50
      go_wp2
      go_ret
      refine ⟨_, _, rfl, by (show Grew _ _; repeat (first | exact Grew.refl _ | refine Grew.alloc ?_ _ | refine Grew.drew ?_ | refine Grew.more ?_ _)), _, HX.out, ?_⟩
      exact row_new (w.alloc (.cells #[.int .i64 15, .string tab, .string name, .int .i64 tt, .int .i64 cc, .int .i64 vk, .int .i64 vi, .string vs, .slice A l.length k] 27)) 27 (w.heap.size + 1) #[.int .i64 15, .string tab, .string name, .int .i64 tt, .int .i64 cc, .int .i64 vk, .int .i64 vi, .string vs, .slice A l.length k] (by simp)
    · rw [cols_out hop]
      have hpart : ∀ y ∈ x.l, SizeOf.sizeOf y < n := fun y hy => by have := x.part_lt hy; omega
      have hx : x.nodes = 1 + nodesL x.l := nodes_eq x
      rw [hx] at hm
      have hNL := nodesL_len x.l
      have hmem : ∀ y ∈ x.l, y.nodes ≤ 100000 := fun y hy => by have := nodesL_mem hy; omega
      obtain ⟨op, tab, name, tt, cc, vk, vi, vs, l⟩ := x
      simp only [Ex.l, Ex.op] at ra hpart hm hNL hop hmem ⊢
      have RA := Lib.hid ra
      have HI := Lib.hid (fun (y : Ex) (hy : y ∈ l) => ih y (hpart y hy))
      have HMem := Lib.hid hmem
      have HG := Lib.hid hg
      have HLen : Hid (∀ j, (colsE (l.take j)).length ≤ 100000) := Lib.hid fun j => by have h1 := colsE_len (l.take j); have h2 := nodesL_cut l j; omega
      have e15 : (op == 15) = false := by rw [beq_eq_false_iff_ne]; exact hop
      obtain ⟨fin, hfin⟩ : ∃ fin, colsE l = fin := ⟨_, rfl⟩
      have HF := Lib.hid hfin
      rw [hfin]
      have hll : l.length ≤ 100000 := by omega
      clear ra ih hpart hn hx hg hfin hop hmem hNL hm
      unfold exV
      simp only [Ex.op, Ex.tab, Ex.name, Ex.t, Ex.c, Ex.vk, Ex.vi, Ex.vs, Ex.l]
      go_enter Try.func50, Try.ntmps50
      go_wp2
      go_loopw [3, 4] (fun v i wr => RColsAt u w 27 #[.int .i64 op, .string tab, .string name, .int .i64 tt, .int .i64 cc, .int .i64 vk, .int .i64 vi, .string vs, .slice A l.length k] l v i wr) (fun _ i _ => l.length - (intOf i).toNat)
      case atStart => exact ⟨0, 0, none, 0, Nat.zero_le _, rfl, rfl, rfl, ⟨[], ListR.nil, own_none _ _ _ _⟩, by (show Grew _ _; repeat (first | exact Grew.refl _ | refine Grew.alloc ?_ _ | refine Grew.drew ?_ | refine Grew.more ?_ _)), Blok.new _ _ _ _ rfl⟩
      case round =>
        obtain ⟨j, m, A3, c3, hj, hm, rfl, rfl, hx, hg, hb⟩ := hrel
        have HX := Lib.hid hx
        have HGr := Lib.hid hg
        have HB := Lib.hid hb
        have c8 := hb.cell 8
        have hlt := hb.lt
        simp at c8
        clear hx hg hb
        by_cases h : j < l.length
        · obtain ⟨ba, oa, PA, ka, rfl, hpa, h9⟩ := exsR_nine RA.out h
          have HN := Lib.hid (colsE_take h)
          have hl1 := HLen.out (j + 1)
          rw [HN.out, List.length_append, ← hm] at hl1
          have HC : Hid (∀ W, Grew wr W → Calls Try.prog 50 #[exV l[j] PA ka] W (ColsF u W l[j].cols)) := Lib.hid fun W hW =>
            HI.out _ (List.getElem_mem h) _ _ u W (HMem.out _ (List.getElem_mem h)) ((HG.out.trans HGr.out).trans hW) hpa
          obtain ⟨p0, a0, a1, a2, a3, a4, a5, a6, a7, a8⟩ := h9.grew (HG.out.trans HGr.out)
          clear h9 hpa HI HMem HLen HF
          generalize l[j] = y at *
          unfold exV at HC
          generalize y.cols = yc at *
          generalize colsE (l.take j) = l0 at *
          obtain ⟨css, hl0, ho⟩ := HX.out
          subst hm
          have HO := Lib.hid ho
          have HL0 := Lib.hid hl0
          clear HX hl0 ho
          go_wp2_with (first | (go_at_call 50; (with_reducible refine (HC.out _ (Grew.refl wr)).mono ?_); rintro e w2 ⟨A2, k2, rfl, hg2, dss, hd2, hr2⟩; have HG2 := Lib.hid hg2; have HD2 := Lib.hid hd2; have HR2 := Lib.hid hr2; clear hg2 hd2 hr2) | (at_builtin; refine wpList_appB rfl (.tmp 17) (.tmp 23) 22 27 9 rfl (w.heap.size + 1) (.agg #[.int .i64 0, .string ⟨#[]⟩, .string ⟨#[]⟩, .int .i64 0, .int .i64 0, .int .i64 0, .int .i64 0, .string ⟨#[]⟩, .slice none 0 0]) 112 Try.underlying22 infoE rfl (by decide) (by decide) _ l0.length css.flatten rfl (own_grewE HO.out HG2.out) A2 yc.length k2 dss.flatten rfl HD2.out.flat HR2.out (listR_one HD2.out) (by omega) (by have := HG2.out.size; omega) ?_; intro A6 c6 w6 ho6 hg6; have HO6 := Lib.hid ho6; have HG6 := Lib.hid hg6; clear ho6 hg6))
          have hob : ∀ i, (Value.slice A3 l0.length c3).ownBlock = some i → w.heap.size + 1 ≤ i := own_base HO.out
          exact ⟨⟨j + 1, l0.length + yc.length, A6, c6, by omega, by rw [HN.out, List.length_append], by go_num, rfl, by rw [HN.out]; exact ExOwn.app HL0.out HD2.out HO6.out,
            (HGr.out.trans HG2.out).grown HG6.out (fun i hi => by have := hob i hi; omega), (HB.out.grew HG2.out).grown HG6.out (fun e => by have := hob _ e; omega)⟩, by simp only [intOf]; omega⟩
        · obtain rfl : j = l.length := by omega
          have HD : Hid (ExsU u wr A3 fin ∧ m = fin.length) := Lib.hid (by have h1 := HX.out.u; rw [List.take_length, HF.out] at h1; rw [List.take_length, HF.out] at hm; exact ⟨h1, hm⟩)
          clear HX HF HI HLen hm
          go_wp2
          go_ret
          obtain ⟨h1, h2⟩ := HD.out
          subst h2
          exact ⟨A3, c3, rfl, HGr.out, h1⟩

theorem flat_pad : True := trivial
mutual
/-- All in it, it first. -/
def Ex.flat : Ex → List Ex
  | .mk op tab name t c vk vi vs l => .mk op tab name t c vk vi vs l :: flatL l
def flatL : List Ex → List Ex
  | [] => []
  | x :: l => x.flat ++ flatL l
end
mutual
/-- How deep each of them stands. -/
def Ex.deps : Ex → Int → List Int
  | .mk _ _ _ _ _ _ _ _ l, d => d :: depsL l (d + 1)
def depsL : List Ex → Int → List Int
  | [], _ => []
  | x :: l, d => x.deps d ++ depsL l d
end
theorem flat_eq (x : Ex) : x.flat = x :: flatL x.l := by cases x; rw [Ex.flat]; rfl
theorem deps_eq (x : Ex) (d : Int) : x.deps d = d :: depsL x.l (d + 1) := by cases x; rw [Ex.deps]; rfl
theorem flatL_append (l m : List Ex) : flatL (l ++ m) = flatL l ++ flatL m := by
  induction l with
  | nil => simp [flatL]
  | cons x l ih => simp only [List.cons_append, flatL, ih, List.append_assoc]
theorem depsL_append (l m : List Ex) (d : Int) : depsL (l ++ m) d = depsL l d ++ depsL m d := by
  induction l with
  | nil => simp [depsL]
  | cons x l ih => simp only [List.cons_append, depsL, ih, List.append_assoc]
theorem flatL_take {l : List Ex} {i : Nat} (h : i < l.length) : flatL (l.take (i + 1)) = flatL (l.take i) ++ l[i].flat := by
  rw [List.take_succ_eq_append_getElem h, flatL_append]
  simp [flatL]
theorem depsL_take {l : List Ex} {i : Nat} (h : i < l.length) (d : Int) : depsL (l.take (i + 1)) d = depsL (l.take i) d ++ l[i].deps d := by
  rw [List.take_succ_eq_append_getElem h, depsL_append]
  simp [depsL]
theorem flatL_len' (l : List Ex) (h : ∀ y ∈ l, y.flat.length = y.nodes) : (flatL l).length = nodesL l := by
  induction l with
  | nil => simp [flatL, nodesL]
  | cons x l ih => simp only [flatL, nodesL, List.length_append, h x (by simp), ih fun y hy => h y (by simp [hy])]
theorem flat_len (x : Ex) : x.flat.length = x.nodes := by
  refine ex_ind (P := fun x => x.flat.length = x.nodes) (fun x ih => ?_) x
  rw [flat_eq, nodes_eq, List.length_cons, flatL_len' x.l ih, Nat.add_comm]
theorem flatL_len (l : List Ex) : (flatL l).length = nodesL l := flatL_len' l fun y _ => flat_len y
theorem depsL_len' (l : List Ex) (d : Int) (h : ∀ y ∈ l, ∀ d, (y.deps d).length = y.nodes) : (depsL l d).length = nodesL l := by
  induction l with
  | nil => simp [depsL, nodesL]
  | cons x l ih => simp only [depsL, nodesL, List.length_append, h x (by simp), ih fun y hy => h y (by simp [hy])]
theorem deps_len (x : Ex) (d : Int) : (x.deps d).length = x.nodes := by
  refine ex_ind (P := fun x => ∀ d, (x.deps d).length = x.nodes) (fun x ih => fun d => ?_) x d
  rw [deps_eq, nodes_eq, List.length_cons, depsL_len' x.l _ ih, Nat.add_comm]
theorem depsL_len (l : List Ex) (d : Int) : (depsL l d).length = nodesL l := depsL_len' l d fun y _ d => deps_len y d
/-- Rows of two types lie apart. -/
theorem own_apart {w : World} {base base' size size' n n' : Nat} {e e' : TypeId} {v v' : Value} {xs xs' : List Value} (h : w.ownsRow base e size v n xs) (h' : w.ownsRow base' e' size' v' n' xs') (he : e ≠ e') : ∀ k, v.ownBlock = some k → some k ≠ v'.ownBlock := by
  intro k hk hk'
  rcases h.2 with ⟨rfl, _⟩ | ⟨g, cap, cur, rfl, _, hh, _⟩
  · simp [Value.ownBlock] at hk
  rcases h'.2 with ⟨rfl, _⟩ | ⟨g', cap', cur', rfl, _, hh', _⟩
  · simp [Value.ownBlock] at hk'
  have e1 : g = k := by simpa [Value.ownBlock] using hk
  have e2 : k = g' := by simpa [Value.ownBlock] using hk'
  subst e1 e2
  rw [hh] at hh'
  simp at hh'
  exact he hh'.2
def FlatF (u w : World) (fl : List Ex) (dl : List Int) (e : Ending) (w' : World) : Prop := ∃ A k B j, e = .returned (.tuple #[.slice A fl.length k, .slice B dl.length j]) ∧ Grew w w' ∧ ExsU u w' A fl ∧ w'.ownsRow w.heap.size 3 1 (.slice B dl.length j) dl.length (iV dl)
def RFlatAt (u w : World) (T : TypeId) (cs : Array Value) (x : Ex) (d : Int) (l : List Ex) (v v2 i : Value) (wr : World) : Prop :=
  ∃ (j n m : Nat) (A : Option Addr) (c : Nat) (B : Option Addr) (c2 : Nat), j ≤ l.length ∧ n = (x :: flatL (l.take j)).length ∧ m = (d :: depsL (l.take j) (d + 1)).length ∧ i = .int .i64 j ∧ v = .slice A n c ∧ v2 = .slice B m c2 ∧ ExOwn u wr (w.heap.size + 1) A c (x :: flatL (l.take j)) ∧
    wr.ownsRow (w.heap.size + 1) 3 1 (.slice B m c2) m (iV (d :: depsL (l.take j) (d + 1))) ∧ Grew w wr ∧ Blok wr w.heap.size T cs
theorem iV_append (l m : List Int) : iV (l ++ m) = iV l ++ iV m := by simp [iV]
def topS (a b : Int) : Int := if a < b then b else a
def topI (a : Int) (l : List Int) : Int := l.foldl topS a
theorem topI_take (a : Int) (l : List Int) {j : Nat} (h : j < l.length) : topI a (l.take (j + 1)) = topS (topI a (l.take j)) l[j] := by
  unfold topI
  rw [List.take_succ_eq_append_getElem h, List.foldl_append]
  rfl
theorem topS_max (a b : Int) : topS a b = max a b := by unfold topS; split <;> omega
theorem topI_depsL (l : List Ex) (h : ∀ y ∈ l, ∀ (d a : Int), d ≤ a + 1 → topI a (y.deps d) = max a (d - 1 + y.depth)) : ∀ (d a : Int), d ≤ a + 1 → topI a (depsL l d) = max a (d - 1 + depthL l) := by
  induction l with
  | nil => intro d a hd; simp only [depsL, depthL]; unfold topI; simp only [List.foldl_nil]; omega
  | cons x l ih =>
    intro d a hd
    simp only [depsL, depthL]
    have e : topI a (x.deps d ++ depsL l d) = topI (topI a (x.deps d)) (depsL l d) := by unfold topI; rw [List.foldl_append]
    rw [e, h x (by simp) d a hd, ih (fun y hy => h y (by simp [hy])) d _ (by omega)]
    omega
theorem topI_deps (x : Ex) : ∀ (d a : Int), d ≤ a + 1 → topI a (x.deps d) = max a (d - 1 + x.depth) := by
  refine ex_ind (P := fun x => ∀ (d a : Int), d ≤ a + 1 → topI a (x.deps d) = max a (d - 1 + x.depth)) (fun x ih => ?_) x
  intro d a hd
  rw [deps_eq, depth_eq]
  have e : topI a (d :: depsL x.l (d + 1)) = topI (topS a d) (depsL x.l (d + 1)) := rfl
  rw [e, topI_depsL x.l ih (d + 1) (topS a d) (by rw [topS_max]; omega), topS_max]
  omega
theorem top_flat (x : Ex) : topI 0 (x.deps 1) = (x.depth : Int) := by
  rw [topI_deps x 1 0 (by omega)]
  omega
def anyS : List Ex → Bool
  | [] => false
  | x :: l => decide (17 ≤ x.op ∧ x.op ≤ 21) || anyS l
theorem anyS_append (l m : List Ex) : anyS (l ++ m) = (anyS l || anyS m) := by
  induction l with
  | nil => simp [anyS]
  | cons x l ih => simp only [List.cons_append, anyS, ih, Bool.or_assoc]
theorem anyS_take (l : List Ex) {j : Nat} (h : j < l.length) : anyS (l.take (j + 1)) = (anyS (l.take j) || decide (17 ≤ l[j].op ∧ l[j].op ≤ 21)) := by
  rw [List.take_succ_eq_append_getElem h, anyS_append]
  simp [anyS]
theorem anyS_flat (x : Ex) : anyS x.flat = x.sums := by
  refine ex_ind (P := fun x => anyS x.flat = x.sums) (fun x ih => ?_) x
  rw [flat_eq, sums_eq]
  have : ∀ l : List Ex, (∀ y ∈ l, anyS y.flat = y.sums) → anyS (flatL l) = sumsL l := by
    intro l
    induction l with
    | nil => intro _; simp [flatL, anyS, sumsL]
    | cons y l ih => intro h; simp only [flatL, sumsL, anyS_append, h y (by simp), ih fun z hz => h z (by simp [hz])]
  rw [anyS, this x.l ih]
def StepAt (u : World) (n : Nat) (i : Value) (wr : World) : Prop := ∃ j : Nat, j ≤ n ∧ i = .int .i64 j ∧ Grew u wr
end Go.Proofs.Ytoaciliojdaoaaa
