/- The statement EvalHangsSaid: for every input the law returns true, and each argument reads as it did. No condition beyond the row's own. -/
import Derived.Test.YtddambfniaiogaaTree10
import Derived.Test.YtddambfniaiogaaRowMuch
import Derived.Test.YtddambfniaiogaaTruth
import Derived.Test.YtddambfniaiogaaEval4
import Derived.Test.YtddambfniaiogaaTruth3
import Derived.Test.YtddambfniaiogaaRowEq
import Derived.Test.YtddambfniaiogaaMix
import Derived.Test.YtddambfniaiogaaApp
import Derived.WalkSpells
import Derived.Laws.CopyOwn
import Derived.Deep.OwnRows
import Derived.Test.YtddambfniaiogaaEvalMath
import Derived.Test.YtddambfniaiogaaTruthMath
import Derived.Deep.DeepCutAuto
import Derived.Test.YtddambfniaiogaaFrame2

/- Layer 8: the document's columns and parts of an expression; the greatest depth and the sums, from all parts. Condition: expressions that lie in memory that is there. -/
namespace Go.Proofs.Ytddambfniaiogaa
open Go.RowKit
attribute [local go_sem] more_cell more_frozen more_more more_setCell more_of_drew more_of_drewN lt_more le_more past_cell past_cell2 past_frozen past_frozen2 past_setCell past_setCell2 mid_cell mid_frozen mid_setCell
attribute [local go_sem ↓] Go.wp_at_zero Go.wp_at_succ

/-- Expressions in a row of this world, what is in them in memory that was there before. -/
def ExsU (u w : World) (A : Option Addr) (l : List Ex) : Prop := ∃ css, ListR (ExR (PRow u)) 9 l css ∧ Row w A css.flatten
theorem ExsU.exs {u w : World} {A : Option Addr} {l : List Ex} (h : ExsU u w A l) (g : Grew u w) : ExsR (PRow w) A l := by
  obtain ⟨css, h1, h2⟩ := h
  exact ⟨css, h1.map fun x cs hx => hx.grew g, h2⟩
theorem ExsU.grew {u w w' : World} {A : Option Addr} {l : List Ex} (h : ExsU u w A l) (g : Grew w w') : ExsU u w' A l := by
  obtain ⟨css, h1, h2⟩ := h
  exact ⟨css, h1, Row.grew h2 g⟩
theorem ExOwn.u {u w : World} {base : Nat} {A : Option Addr} {c : Nat} {l : List Ex} (h : ExOwn u w base A c l) : ExsU u w A l := by
  obtain ⟨css, h1, h2⟩ := h
  obtain ⟨A', c', e, h3⟩ := own_row h2
  injection e with e _ _
  subst e
  exact ⟨css, h1, h3⟩
theorem ExOwn.app {u w : World} {base : Nat} {A : Option Addr} {c : Nat} {l m : List Ex} {css dss : List (List Value)} (h : ListR (ExR (PRow u)) 9 l css) (k : ListR (ExR (PRow u)) 9 m dss)
    (ho : w.ownsRow base 26 9 (.slice A (l.length + m.length) c) (l.length + m.length) (css.flatten ++ dss.flatten)) : ExOwn u w base A c (l ++ m) := by
  refine ⟨css ++ dss, listR_append h k, ?_⟩
  rw [List.length_append, List.flatten_append]
  exact ho
def ColsF (u w : World) (l : List Ex) (e : Ending) (w' : World) : Prop := ∃ A k, e = .returned (.slice A l.length k) ∧ Grew w w' ∧ ExsU u w' A l
def RColsAt (u w : World) (T : TypeId) (cs : Array Value) (l : List Ex) (v i : Value) (wr : World) : Prop :=
  ∃ (j n : Nat) (A : Option Addr) (c : Nat), j ≤ l.length ∧ n = (colsE (l.take j)).length ∧ i = .int .i64 j ∧ v = .slice A n c ∧ ExOwn u wr (w.heap.size + 1) A c (colsE (l.take j)) ∧ Grew w wr ∧ Blok wr w.heap.size T cs
theorem colsE_len (l : List Ex) : (colsE l).length ≤ nodesL l := by
  induction l with
  | nil => simp [colsE]
  | cons y l ih => simp only [colsE, nodesL, List.length_append]; have := cols_len y; omega
theorem nodesL_cut (l : List Ex) (j : Nat) : nodesL (l.take j) ≤ nodesL l := by
  have e : nodesL l = nodesL (l.take j) + nodesL (l.drop j) := by rw [← nodesL_append, List.take_append_drop]
  omega
set_option maxHeartbeats 2000000 in
theorem rcols_ex (n : Nat) : ∀ (x : Ex), SizeOf.sizeOf x < n → ∀ (A : Option Addr) (k : Nat) (u w : World), x.nodes ≤ 100000 → Grew u w → ExsR (PRow u) A x.l →
    Calls Try.prog 29 #[exV x A k] w (ColsF u w x.cols) := by
  induction n with
  | zero => intro x hn; omega
  | succ n ih =>
    intro x hn A k u w hm hg ra
    by_cases hop : x.op = 15
    · rw [cols_in hop]
      have HX := Lib.hid (listR_single ra k)
      obtain ⟨op, tab, name, tt, cc, vk, vi, vs, l⟩ := x
      simp only [Ex.op] at hop
      subst hop
      clear ra ih hn hm hg
      unfold exV
      simp only [Ex.op, Ex.tab, Ex.name, Ex.t, Ex.c, Ex.vk, Ex.vi, Ex.vs, Ex.l]
      go_enter Try.func29, Try.ntmps29
      go_wp2
      go_ret
      refine ⟨_, _, rfl, by (show Grew _ _; repeat (first | exact Grew.refl _ | refine Grew.alloc ?_ _ | refine Grew.drew ?_ | refine Grew.more ?_ _)), _, HX.out, ?_⟩
      exact row_new (w.alloc (.cells #[.int .i64 15, .string tab, .string name, .int .i64 tt, .int .i64 cc, .int .i64 vk, .int .i64 vi, .string vs, .slice A l.length k] 26)) 26 (w.heap.size + 1) #[.int .i64 15, .string tab, .string name, .int .i64 tt, .int .i64 cc, .int .i64 vk, .int .i64 vi, .string vs, .slice A l.length k] (by simp)
    · rw [cols_out hop]
      have hpart : ∀ y ∈ x.l, SizeOf.sizeOf y < n := fun y hy => by have := x.part_lt hy; omega
      have hx : x.nodes = 1 + nodesL x.l := nodes_eq x
      rw [hx] at hm
      have hNL := nodesL_len x.l
      have hmem : ∀ y ∈ x.l, y.nodes ≤ 100000 := fun y hy => by have := nodesL_mem hy; omega
      obtain ⟨op, tab, name, tt, cc, vk, vi, vs, l⟩ := x
      simp only [Ex.l, Ex.op] at ra hpart hm hNL hop hmem ⊢
      have RA := Lib.hid ra
      have HI := Lib.hid (fun (y : Ex) (hy : y ∈ l) => ih y (hpart y hy))
      have HMem := Lib.hid hmem
      have HG := Lib.hid hg
      have HLen : Hid (∀ j, (colsE (l.take j)).length ≤ 100000) := Lib.hid fun j => by have h1 := colsE_len (l.take j); have h2 := nodesL_cut l j; omega
      have e15 : (op == 15) = false := by rw [beq_eq_false_iff_ne]; exact hop
      obtain ⟨fin, hfin⟩ : ∃ fin, colsE l = fin := ⟨_, rfl⟩
      have HF := Lib.hid hfin
      rw [hfin]
      have hll : l.length ≤ 100000 := by omega
      clear ra ih hpart hn hx hg hfin hop hmem hNL hm
      unfold exV
      simp only [Ex.op, Ex.tab, Ex.name, Ex.t, Ex.c, Ex.vk, Ex.vi, Ex.vs, Ex.l]
      go_enter Try.func29, Try.ntmps29
      go_wp2
      go_loopw [3, 4] (fun v i wr => RColsAt u w 26 #[.int .i64 op, .string tab, .string name, .int .i64 tt, .int .i64 cc, .int .i64 vk, .int .i64 vi, .string vs, .slice A l.length k] l v i wr) (fun _ i _ => l.length - (intOf i).toNat)
      case atStart => exact ⟨0, 0, none, 0, Nat.zero_le _, rfl, rfl, rfl, ⟨[], ListR.nil, own_none _ _ _ _⟩, by (show Grew _ _; repeat (first | exact Grew.refl _ | refine Grew.alloc ?_ _ | refine Grew.drew ?_ | refine Grew.more ?_ _)), Blok.new _ _ _ _ rfl⟩
      case round =>
        obtain ⟨j, m, A3, c3, hj, hm, rfl, rfl, hx, hg, hb⟩ := hrel
        have HX := Lib.hid hx
        have HGr := Lib.hid hg
        have HB := Lib.hid hb
        have c8 := hb.cell 8
        have hlt := hb.lt
        simp at c8
        clear hx hg hb
        by_cases h : j < l.length
        · obtain ⟨ba, oa, PA, ka, rfl, hpa, h9⟩ := exsR_nine RA.out h
          have HN := Lib.hid (colsE_take h)
          have hl1 := HLen.out (j + 1)
          rw [HN.out, List.length_append, ← hm] at hl1
          have HC : Hid (∀ W, Grew wr W → Calls Try.prog 29 #[exV l[j] PA ka] W (ColsF u W l[j].cols)) := Lib.hid fun W hW =>
            HI.out _ (List.getElem_mem h) _ _ u W (HMem.out _ (List.getElem_mem h)) ((HG.out.trans HGr.out).trans hW) hpa
          obtain ⟨p0, a0, a1, a2, a3, a4, a5, a6, a7, a8⟩ := h9.grew (HG.out.trans HGr.out)
          clear h9 hpa HI HMem HLen HF
          generalize l[j] = y at *
          unfold exV at HC
          generalize y.cols = yc at *
          generalize colsE (l.take j) = l0 at *
          obtain ⟨css, hl0, ho⟩ := HX.out
          subst hm
          have HO := Lib.hid ho
          have HL0 := Lib.hid hl0
          clear HX hl0 ho
          go_wp2_with (first | (go_at_call 29; (with_reducible refine (HC.out _ (Grew.refl wr)).mono ?_); rintro e w2 ⟨A2, k2, rfl, hg2, dss, hd2, hr2⟩; have HG2 := Lib.hid hg2; have HD2 := Lib.hid hd2; have HR2 := Lib.hid hr2; clear hg2 hd2 hr2) | (at_builtin; refine wpList_appB rfl (.tmp 17) (.tmp 23) 24 26 9 rfl (w.heap.size + 1) (.agg #[.int .i64 0, .string ⟨#[]⟩, .string ⟨#[]⟩, .int .i64 0, .int .i64 0, .int .i64 0, .int .i64 0, .string ⟨#[]⟩, .slice none 0 0]) 112 Try.underlying24 infoE rfl (by decide) (by decide) _ l0.length css.flatten rfl (own_grewE HO.out HG2.out) A2 yc.length k2 dss.flatten rfl HD2.out.flat HR2.out (listR_one HD2.out) (by omega) (by have := HG2.out.size; omega) ?_; intro A6 c6 w6 ho6 hg6; have HO6 := Lib.hid ho6; have HG6 := Lib.hid hg6; clear ho6 hg6))
          have hob : ∀ i, (Value.slice A3 l0.length c3).ownBlock = some i → w.heap.size + 1 ≤ i := own_base HO.out
          exact ⟨⟨j + 1, l0.length + yc.length, A6, c6, by omega, by rw [HN.out, List.length_append], by go_num, rfl, by rw [HN.out]; exact ExOwn.app HL0.out HD2.out HO6.out,
            (HGr.out.trans HG2.out).grown HG6.out (fun i hi => by have := hob i hi; omega), (HB.out.grew HG2.out).grown HG6.out (fun e => by have := hob _ e; omega)⟩, by simp only [intOf]; omega⟩
        · obtain rfl : j = l.length := by omega
          have HD : Hid (ExsU u wr A3 fin ∧ m = fin.length) := Lib.hid (by have h1 := HX.out.u; rw [List.take_length, HF.out] at h1; rw [List.take_length, HF.out] at hm; exact ⟨h1, hm⟩)
          clear HX HF HI HLen hm
          go_wp2
          go_ret
          obtain ⟨h1, h2⟩ := HD.out
          subst h2
          exact ⟨A3, c3, rfl, HGr.out, h1⟩

mutual
/-- All in it, it first. -/
def Ex.flat : Ex → List Ex
  | .mk op tab name t c vk vi vs l => .mk op tab name t c vk vi vs l :: flatL l
def flatL : List Ex → List Ex
  | [] => []
  | x :: l => x.flat ++ flatL l
end
mutual
/-- How deep each of them stands. -/
def Ex.deps : Ex → Int → List Int
  | .mk _ _ _ _ _ _ _ _ l, d => d :: depsL l (d + 1)
def depsL : List Ex → Int → List Int
  | [], _ => []
  | x :: l, d => x.deps d ++ depsL l d
end
theorem flat_eq (x : Ex) : x.flat = x :: flatL x.l := by cases x; rw [Ex.flat]; rfl
theorem deps_eq (x : Ex) (d : Int) : x.deps d = d :: depsL x.l (d + 1) := by cases x; rw [Ex.deps]; rfl
theorem flatL_append (l m : List Ex) : flatL (l ++ m) = flatL l ++ flatL m := by
  induction l with
  | nil => simp [flatL]
  | cons x l ih => simp only [List.cons_append, flatL, ih, List.append_assoc]
theorem depsL_append (l m : List Ex) (d : Int) : depsL (l ++ m) d = depsL l d ++ depsL m d := by
  induction l with
  | nil => simp [depsL]
  | cons x l ih => simp only [List.cons_append, depsL, ih, List.append_assoc]
theorem flatL_take {l : List Ex} {i : Nat} (h : i < l.length) : flatL (l.take (i + 1)) = flatL (l.take i) ++ l[i].flat := by
  rw [List.take_succ_eq_append_getElem h, flatL_append]
  simp [flatL]
theorem depsL_take {l : List Ex} {i : Nat} (h : i < l.length) (d : Int) : depsL (l.take (i + 1)) d = depsL (l.take i) d ++ l[i].deps d := by
  rw [List.take_succ_eq_append_getElem h, depsL_append]
  simp [depsL]
theorem flatL_len' (l : List Ex) (h : ∀ y ∈ l, y.flat.length = y.nodes) : (flatL l).length = nodesL l := by
  induction l with
  | nil => simp [flatL, nodesL]
  | cons x l ih => simp only [flatL, nodesL, List.length_append, h x (by simp), ih fun y hy => h y (by simp [hy])]
theorem flat_len (x : Ex) : x.flat.length = x.nodes := by
  refine ex_ind (P := fun x => x.flat.length = x.nodes) (fun x ih => ?_) x
  rw [flat_eq, nodes_eq, List.length_cons, flatL_len' x.l ih, Nat.add_comm]
theorem flatL_len (l : List Ex) : (flatL l).length = nodesL l := flatL_len' l fun y _ => flat_len y
theorem depsL_len' (l : List Ex) (d : Int) (h : ∀ y ∈ l, ∀ d, (y.deps d).length = y.nodes) : (depsL l d).length = nodesL l := by
  induction l with
  | nil => simp [depsL, nodesL]
  | cons x l ih => simp only [depsL, nodesL, List.length_append, h x (by simp), ih fun y hy => h y (by simp [hy])]
theorem deps_len (x : Ex) (d : Int) : (x.deps d).length = x.nodes := by
  refine ex_ind (P := fun x => ∀ d, (x.deps d).length = x.nodes) (fun x ih => fun d => ?_) x d
  rw [deps_eq, nodes_eq, List.length_cons, depsL_len' x.l _ ih, Nat.add_comm]
theorem depsL_len (l : List Ex) (d : Int) : (depsL l d).length = nodesL l := depsL_len' l d fun y _ d => deps_len y d
/-- Rows of two types lie apart. -/
theorem own_apart {w : World} {base base' size size' n n' : Nat} {e e' : TypeId} {v v' : Value} {xs xs' : List Value} (h : w.ownsRow base e size v n xs) (h' : w.ownsRow base' e' size' v' n' xs') (he : e ≠ e') : ∀ k, v.ownBlock = some k → some k ≠ v'.ownBlock := by
  intro k hk hk'
  rcases h.2 with ⟨rfl, _⟩ | ⟨g, cap, cur, rfl, _, hh, _⟩
  · simp [Value.ownBlock] at hk
  rcases h'.2 with ⟨rfl, _⟩ | ⟨g', cap', cur', rfl, _, hh', _⟩
  · simp [Value.ownBlock] at hk'
  have e1 : g = k := by simpa [Value.ownBlock] using hk
  have e2 : k = g' := by simpa [Value.ownBlock] using hk'
  subst e1 e2
  rw [hh] at hh'
  simp at hh'
  exact he hh'.2
def FlatF (u w : World) (fl : List Ex) (dl : List Int) (e : Ending) (w' : World) : Prop := ∃ A k B j, e = .returned (.tuple #[.slice A fl.length k, .slice B dl.length j]) ∧ Grew w w' ∧ ExsU u w' A fl ∧ w'.ownsRow w.heap.size 3 1 (.slice B dl.length j) dl.length (iV dl)
def RFlatAt (u w : World) (T : TypeId) (cs : Array Value) (x : Ex) (d : Int) (l : List Ex) (v v2 i : Value) (wr : World) : Prop :=
  ∃ (j n m : Nat) (A : Option Addr) (c : Nat) (B : Option Addr) (c2 : Nat), j ≤ l.length ∧ n = (x :: flatL (l.take j)).length ∧ m = (d :: depsL (l.take j) (d + 1)).length ∧ i = .int .i64 j ∧ v = .slice A n c ∧ v2 = .slice B m c2 ∧ ExOwn u wr (w.heap.size + 1) A c (x :: flatL (l.take j)) ∧
    wr.ownsRow (w.heap.size + 1) 3 1 (.slice B m c2) m (iV (d :: depsL (l.take j) (d + 1))) ∧ Grew w wr ∧ Blok wr w.heap.size T cs
theorem iV_append (l m : List Int) : iV (l ++ m) = iV l ++ iV m := by simp [iV]
def topS (a b : Int) : Int := if a < b then b else a
def topI (a : Int) (l : List Int) : Int := l.foldl topS a
theorem topI_take (a : Int) (l : List Int) {j : Nat} (h : j < l.length) : topI a (l.take (j + 1)) = topS (topI a (l.take j)) l[j] := by
  unfold topI
  rw [List.take_succ_eq_append_getElem h, List.foldl_append]
  rfl
theorem topS_max (a b : Int) : topS a b = max a b := by unfold topS; split <;> omega
theorem topI_depsL (l : List Ex) (h : ∀ y ∈ l, ∀ (d a : Int), d ≤ a + 1 → topI a (y.deps d) = max a (d - 1 + y.depth)) : ∀ (d a : Int), d ≤ a + 1 → topI a (depsL l d) = max a (d - 1 + depthL l) := by
  induction l with
  | nil => intro d a hd; simp only [depsL, depthL]; unfold topI; simp only [List.foldl_nil]; omega
  | cons x l ih =>
    intro d a hd
    simp only [depsL, depthL]
    have e : topI a (x.deps d ++ depsL l d) = topI (topI a (x.deps d)) (depsL l d) := by unfold topI; rw [List.foldl_append]
    rw [e, h x (by simp) d a hd, ih (fun y hy => h y (by simp [hy])) d _ (by omega)]
    omega
theorem topI_deps (x : Ex) : ∀ (d a : Int), d ≤ a + 1 → topI a (x.deps d) = max a (d - 1 + x.depth) := by
  refine ex_ind (P := fun x => ∀ (d a : Int), d ≤ a + 1 → topI a (x.deps d) = max a (d - 1 + x.depth)) (fun x ih => ?_) x
  intro d a hd
  rw [deps_eq, depth_eq]
  have e : topI a (d :: depsL x.l (d + 1)) = topI (topS a d) (depsL x.l (d + 1)) := rfl
  rw [e, topI_depsL x.l ih (d + 1) (topS a d) (by rw [topS_max]; omega), topS_max]
  omega
theorem top_flat (x : Ex) : topI 0 (x.deps 1) = (x.depth : Int) := by
  rw [topI_deps x 1 0 (by omega)]
  omega
def anyS : List Ex → Bool
  | [] => false
  | x :: l => decide (17 ≤ x.op ∧ x.op ≤ 21) || anyS l
theorem anyS_append (l m : List Ex) : anyS (l ++ m) = (anyS l || anyS m) := by
  induction l with
  | nil => simp [anyS]
  | cons x l ih => simp only [List.cons_append, anyS, ih, Bool.or_assoc]
theorem anyS_take (l : List Ex) {j : Nat} (h : j < l.length) : anyS (l.take (j + 1)) = (anyS (l.take j) || decide (17 ≤ l[j].op ∧ l[j].op ≤ 21)) := by
  rw [List.take_succ_eq_append_getElem h, anyS_append]
  simp [anyS]
theorem anyS_flat (x : Ex) : anyS x.flat = x.sums := by
  refine ex_ind (P := fun x => anyS x.flat = x.sums) (fun x ih => ?_) x
  rw [flat_eq, sums_eq]
  have : ∀ l : List Ex, (∀ y ∈ l, anyS y.flat = y.sums) → anyS (flatL l) = sumsL l := by
    intro l
    induction l with
    | nil => intro _; simp [flatL, anyS, sumsL]
    | cons y l ih => intro h; simp only [flatL, sumsL, anyS_append, h y (by simp), ih fun z hz => h z (by simp [hz])]
  rw [anyS, this x.l ih]
def StepAt (u : World) (n : Nat) (i : Value) (wr : World) : Prop := ∃ j : Nat, j ≤ n ∧ i = .int .i64 j ∧ Grew u wr
set_option maxHeartbeats 2000000 in
theorem rsameAll_ex (l : List Ex) (A B : Option Addr) (k j n : Nat) (hn : l.length = n) (hm : ∀ y ∈ l, y.nodes ≤ 1000000) (hl : n ≤ 1000000) (w : World) (ra : ExsR (PRow w) A l) (rb : ExsR (PRow w) B l) :
    Gives Try.prog 74 #[.slice A n k, .slice B n j] w (.bool true) := by
  unfold Gives
  have RA := Lib.hid ra
  have RB := Lib.hid rb
  have HM := Lib.hid hm
  have HN := Lib.hid hn
  clear ra rb hm
  have hnn : n ≤ 1000000 := hl
  clear hn hl
  go_enter Try.func74, Try.ntmps74
  go_wp2
  go_loopw [5] (fun i wr => StepAt w n i wr) (fun i _ => n - (intOf i).toNat)
  case atStart => exact ⟨0, Nat.zero_le _, rfl, by (show Grew _ _; repeat (first | exact Grew.refl _ | refine Grew.alloc ?_ _ | refine Grew.drew ?_ | refine Grew.more ?_ _))⟩
  case round =>
    obtain ⟨j, hj, rfl, hg⟩ := hrel
    have HG := Lib.hid hg
    clear hg
    by_cases h : j < n
    · obtain ⟨ba, oa, PA, ka, rfl, hpa, h9⟩ := exsR_nine RA.out (show j < l.length by rw [HN.out]; exact h)
      obtain ⟨bb, ob, PB, kb, rfl, hpb, k9⟩ := exsR_nine RB.out (show j < l.length by rw [HN.out]; exact h)
      have HC : Hid (∀ W, Grew wr W → Gives Try.prog 48 #[exV (l[j]'(by rw [HN.out]; exact h)) PA ka, exV (l[j]'(by rw [HN.out]; exact h)) PB kb] W (.bool true)) := Lib.hid fun W hW =>
        rsame_ex 1000000 (by omega) _ _ (HM.out _ (List.getElem_mem _)) PA PB ka kb true (by simp) W (hpa.grew (HG.out.trans hW)) (hpb.grew (HG.out.trans hW))
      obtain ⟨p0, a0, a1, a2, a3, a4, a5, a6, a7, a8⟩ := h9.grew HG.out
      obtain ⟨q0, b0, b1, b2, b3, b4, b5, b6, b7, b8⟩ := k9.grew HG.out
      clear h9 k9 hpa hpb RA RB HM
      generalize l[j]'(by rw [HN.out]; exact h) = y at *
      unfold exV at HC
      go_wp2
      refine wp_region_more (by kernel_rfl) (by kernel_rfl) ?_
      repeat (go_big_quiet_step ((first | (go_at_call 48; exact (HC.out _ ⟨_, rfl⟩).within))))
      refine wpQuiet_nil ?_
      rintro _ ⟨z, rfl⟩
      go_wp2_with fail
      exact ⟨⟨j + 1, by omega, by go_num, HG.out.more _⟩, by simp only [intOf]; omega⟩
    · obtain rfl : n = j := by omega
      go_wp2
      go_ret
      exact ⟨rfl, HG.out⟩
end Go.Proofs.Ytddambfniaiogaa

/- Layer 13: what is more than is asked of an environment. Condition: rows that lie in memory that is there. -/
namespace Go.Proofs.Ytddambfniaiogaa
open Go.RowKit
attribute [local go_sem] more_cell more_frozen more_more more_setCell more_of_drew more_of_drewN lt_more le_more past_cell past_cell2 past_frozen past_frozen2 past_setCell past_setCell2 mid_cell mid_frozen mid_setCell
attribute [local go_sem ↓] Go.wp_at_zero Go.wp_at_succ

def goodEnv (l : List (List Vl)) : Prop := l.length ≤ 60 ∧ (∀ r ∈ l, r.length ≤ 40) ∧ szRs l ≤ 2000
set_option maxHeartbeats 1000000 in
theorem much13_any (l : List (List Vl)) (hl : RwsOk l) (A : Option Addr) (k0 : Nat) (w : World) (h : RwsR (PRow w) A l) :
    Calls Try.prog 16 #[.slice A l.length k0] w (MuchR w (goodEnv l)) := by
  have HC := Lib.hid h
  have HO := Lib.hid hl
  have hlen := hl.1
  clear h hl
  go_enter Try.func16, Try.ntmps16
  go_wp2
  go_loopw [3, 4] (fun n i wr => Much4At w l n i wr) (fun _ i _ => l.length - (intOf i).toNat)
  case atStart => exact ⟨0, 0, Nat.zero_le _, rfl, rfl, by simp [szRs], by decide, by (show Grew _ _; repeat (first | exact Grew.refl _ | refine Grew.alloc ?_ _ | refine Grew.drew ?_ | refine Grew.more ?_ _)), by simp⟩
  case round =>
    obtain ⟨j, m0, hj, rfl, rfl, hm0, hm2, hg, ha⟩ := hrel
    have HG := Lib.hid hg
    have HA := Lib.hid ha
    have HM := Lib.hid hm0
    clear hg ha hm0
    by_cases h : j < l.length
    · by_cases h70 : j < 70
      · have h70' : (j : Int) < 70 := by omega
        obtain ⟨b, o, B, k2, rfl, hb, hc, hk, hv⟩ := rwsR_at (HC.out.grew HG.out) h
        have HV := Lib.hid hv
        have HS := Lib.hid (szRs_take h)
        have HN := Lib.hid (fun hx => take_all (P := fun r : List Vl => r.length ≤ 40) HA.out h hx)
        have HQ := Lib.hid (HO.out.2 _ (List.getElem_mem h)).2
        have hrl := (HO.out.2 _ (List.getElem_mem h)).1
        clear hv HA
        generalize l[j] = r at *
        obtain ⟨wo, rfl⟩ : ∃ wo : World, wo = wr := ⟨_, rfl⟩
        go_wp2
        go_loop [3, 5] (fun n i => In4At r m0 n i) (fun _ i => r.length - (intOf i).toNat)
        case atStart => exact ⟨0, m0, Nat.zero_le _, rfl, rfl, by simp [szR]⟩
        case round =>
          obtain ⟨q, m, hq, rfl, rfl, hm⟩ := hrel
          have HM2 := Lib.hid hm
          clear hm
          by_cases hqr : q < r.length
          · by_cases h50 : q < 50
            · have h50' : (q : Int) < 50 := by omega
              have hle : m ≤ 10000000000000000 := by
                have := szR_le HQ.out q
                have h3 : q * 140737488355329 ≤ 50 * 140737488355329 := Nat.mul_le_mul_right _ (by omega)
                have := HM2.out
                omega
              obtain ⟨b', o', rfl, hb', _, _, c2⟩ := vlsR_at HV.out hqr
              have hsz := (HQ.out _ (List.getElem_mem hqr)).2.2
              have HT := Lib.hid (szR_take hqr)
              generalize r[q] = v at *
              go_wp2
              exact ⟨⟨q + 1, m + 1 + v.s.size, by omega, by go_num, by go_num, by rw [HT.out, HM2.out]; omega⟩, by simp only [intOf]; omega⟩
            · have h50' : (50 : Int) ≤ q := by omega
              have hn' : (40 : Int) < r.length := by omega
              go_wp2
              go_ret
              exact muchR_true _ HG.out
          · obtain rfl : q = r.length := by omega
            have HM3 : Hid (m = m0 + szR r) := Lib.hid (by have := HM2.out; rwa [List.take_length] at this)
            by_cases hn : 40 < r.length
            · have hn' : (40 : Int) < r.length := by omega
              go_wp2
              go_ret
              exact muchR_true _ HG.out
            · have hn' : (r.length : Int) ≤ 40 := by omega
              by_cases h2k : 2000 < m
              · have h2k' : (2000 : Int) < m := by omega
                go_wp2
                go_ret
                exact muchR_true _ HG.out
              · have h2k' : (m : Int) ≤ 2000 := by omega
                go_wp2
                exact ⟨⟨j + 1, m, by omega, by go_num, rfl, by rw [HS.out, HM3.out, HM.out], by omega, HG.out, HN.out (by omega)⟩, by simp only [intOf]; omega⟩
      · have h70' : (70 : Int) ≤ j := by omega
        have h60 : (60 : Int) < l.length := by omega
        go_wp2
        go_ret
        exact muchR_true _ HG.out
    · obtain rfl : j = l.length := by omega
      have HA2 : Hid ((∀ r ∈ l, r.length ≤ 40) ∧ szRs l ≤ 2000) := Lib.hid (by
        have h1 := HA.out
        have h2 := HM.out
        rw [List.take_length] at h1 h2
        exact ⟨h1, by omega⟩)
      go_wp2
      go_ret
      exact muchR_dec (c := (60 : Int) < l.length) HG.out (fun hc => ⟨by omega, HA2.out⟩)
end Go.Proofs.Ytddambfniaiogaa

/- Layer 13: what is true, by the program. Condition: rows and expressions that lie in memory that is there. -/
namespace Go.Proofs.Ytddambfniaiogaa
open Go.RowKit
attribute [local go_sem] more_cell more_frozen more_more more_setCell more_of_drew more_of_drewN lt_more le_more past_cell past_cell2 past_frozen past_frozen2 past_setCell past_setCell2 mid_cell mid_frozen mid_setCell
attribute [local go_sem ↓] Go.wp_at_zero Go.wp_at_succ

set_option maxHeartbeats 1000000 in
/-- The closure of Truth tells the part i's value. -/
theorem truv_any (x : Ex) (A : Option Addr) (k : Nat) (env : List (List Vl)) (E : Option Addr) (ke : Nat) (g2 g3 i : Nat) (hi : i < x.l.length) (W : World) (y : Vl) (f : Int) (b2 : Blok W g2 26 (exC x A k).toArray) (b3 : Blok W g3 27 #[.slice E env.length ke])
    (ra : ExsR (PRow W) A x.l)
    (hv : ∀ B j W', ExsR (PRow W) B x.l[i].l → Grew W W' → Gives Try.prog 18 #[exV x.l[i] B j, .slice E env.length ke] W' (.tuple #[vlV y, .int .i64 f])) :
    Gives Try.prog 96 #[.int .i64 i, .pointer (some ⟨g2, 0, none⟩), .pointer (some ⟨g3, 0, none⟩)] W (.tuple #[vlV y, .int .i64 f]) := by
  obtain ⟨b, o, B, j, rfl, hp, h9⟩ := exsR_nine ra hi
  have HV : Hid (∀ W', Grew W W' → Gives Try.prog 18 #[exV x.l[i] B j, .slice E env.length ke] W' (.tuple #[vlV y, .int .i64 f])) := Lib.hid fun W' hW => hv B j W' hp hW
  obtain ⟨q0, s0, s1, s2, s3, s4, s5, s6, s7, s8⟩ := blok9 b2
  have t0 := b3.cell 0
  have tl := b3.lt
  simp at t0
  clear hv hp ra b2 b3
  obtain ⟨z0, a0, a1, a2, a3, a4, a5, a6, a7, a8⟩ := h9
  generalize x.l[i] = p at *
  generalize x.l.length = n at *
  obtain ⟨W1, hW1⟩ : ∃ W1 : World, W1 = W.alloc (.cells #[.int .i64 0, .int .i64 0, .string ⟨#[]⟩] 23) := ⟨_, rfl⟩
  have HG1 : Hid (Grew W W1) := Lib.hid (by rw [hW1]; exact (Grew.refl W).alloc _)
  have HB1 : Hid (Blok W1 W.heap.size 23 #[.int .i64 0, .int .i64 0, .string ⟨#[]⟩]) := Lib.hid (by rw [hW1]; exact Blok.new _ _ _ _ rfl)
  unfold exV at HV
  unfold Gives vlV at *
  go_enter Try.func96, Try.ntmps96
  go_upto_region 1 with fail
  rw [← hW1]
  have T : ∀ (b o : Nat) (v : Value), b < W.heap.size → W.cell? ⟨b, o, none⟩ = some v → b < W1.heap.size ∧ W1.cell? ⟨b, o, none⟩ = some v := fun b o v hb hc => ⟨Nat.lt_of_lt_of_le hb HG1.out.size, by rw [HG1.out.cell hb]; exact hc⟩
  obtain ⟨q0', s6'⟩ := T _ _ _ q0 s8
  obtain ⟨tl', t0'⟩ := T _ _ _ tl t0
  obtain ⟨z0', a0'⟩ := T _ _ _ z0 a0
  obtain ⟨_, a1'⟩ := T _ _ _ z0 a1
  obtain ⟨_, a2'⟩ := T _ _ _ z0 a2
  obtain ⟨_, a3'⟩ := T _ _ _ z0 a3
  obtain ⟨_, a4'⟩ := T _ _ _ z0 a4
  obtain ⟨_, a5'⟩ := T _ _ _ z0 a5
  obtain ⟨_, a6'⟩ := T _ _ _ z0 a6
  obtain ⟨_, a7'⟩ := T _ _ _ z0 a7
  obtain ⟨_, a8'⟩ := T _ _ _ z0 a8
  obtain ⟨zl, z1, z2, z3, y1, y2, y3⟩ := val_in HB1.out
  clear T hW1 q0 s0 s1 s2 s3 s4 s5 s6 s7 s8 tl t0 z0 a0 a1 a2 a3 a4 a5 a6 a7 a8
  have HVx : Hid (∀ x, Gives Try.prog 18 #[.agg #[.int .i64 p.op, .string p.tab, .string p.name, .int .i64 p.t, .int .i64 p.c, .int .i64 p.vk, .int .i64 p.vi, .string p.vs, .slice B p.l.length j], .slice E env.length ke] (more W1 x) (.tuple #[.agg #[.int .i64 y.k, .int .i64 y.i, .string y.s], .int .i64 f])) := Lib.hid fun x => HV.out _ (HG1.out.more x)
  refine wp_region_more_tail 9 (by kernel_rfl) (by kernel_rfl) ?_
  simp only [List.take_succ_cons, List.take_zero, List.drop_succ_cons, List.drop_zero]
  repeat (go_big_quiet_step (((first | (go_at_call 18; exact (HVx.out _).within)))))
  refine wpQuiet_nil ?_
  rintro _ ⟨z, rfl⟩
  go_wp2
  have hb := fun z => (val_set HB1.out (.int .i64 y.k) (.int .i64 y.i) (.string y.s)).grew (Grew.more (Grew.refl _) z)
  have q1 := fun z => (val_in (hb z)).2.1
  have q2 := fun z => (val_in (hb z)).2.2.1
  have q3 := fun z => (val_in (hb z)).2.2.2.1
  exact bodyPost_ret (v := .tuple #[.agg #[.int .i64 y.k, .int .i64 y.i, .string y.s], .int .i64 f]) (by simp [results, Try.results96, go_sem, q1, q2, q3]) rfl ⟨rfl, (Grew.more (grew_set3 HG1.out (Nat.le_refl _) _ _ _) _)⟩
set_option maxHeartbeats 1000000 in
/-- The closure of Truth tells the part i's truth. -/
theorem trut_any (x : Ex) (A : Option Addr) (k : Nat) (env : List (List Vl)) (E : Option Addr) (ke : Nat) (g2 g3 i : Nat) (hi : i < x.l.length) (W : World) (t : Int) (b2 : Blok W g2 26 (exC x A k).toArray) (b3 : Blok W g3 27 #[.slice E env.length ke])
    (ra : ExsR (PRow W) A x.l)
    (hv : ∀ B j W', ExsR (PRow W) B x.l[i].l → Grew W W' → Gives Try.prog 25 #[exV x.l[i] B j, .slice E env.length ke] W' (.int .i64 t)) :
    Gives Try.prog 97 #[.int .i64 i, .pointer (some ⟨g2, 0, none⟩), .pointer (some ⟨g3, 0, none⟩)] W (.int .i64 t) := by
  obtain ⟨b, o, B, j, rfl, hp, h9⟩ := exsR_nine ra hi
  have HV : Hid (∀ W', Grew W W' → Gives Try.prog 25 #[exV x.l[i] B j, .slice E env.length ke] W' (.int .i64 t)) := Lib.hid fun W' hW => hv B j W' hp hW
  obtain ⟨q0, s0, s1, s2, s3, s4, s5, s6, s7, s8⟩ := blok9 b2
  have t0 := b3.cell 0
  have tl := b3.lt
  simp at t0
  clear hv hp ra b2 b3
  obtain ⟨z0, a0, a1, a2, a3, a4, a5, a6, a7, a8⟩ := h9
  generalize x.l[i] = p at *
  generalize x.l.length = n at *
  unfold exV at HV
  unfold Gives at *
  go_enter Try.func97, Try.ntmps97
  go_upto_region 1 with fail
  have HVx : Hid (∀ x, Gives Try.prog 25 #[.agg #[.int .i64 p.op, .string p.tab, .string p.name, .int .i64 p.t, .int .i64 p.c, .int .i64 p.vk, .int .i64 p.vi, .string p.vs, .slice B p.l.length j], .slice E env.length ke] (more W x) (.int .i64 t)) := Lib.hid fun x => HV.out _ ((Grew.refl _).more x)
  refine wp_region_more_tail 7 (by kernel_rfl) (by kernel_rfl) ?_
  simp only [List.take_succ_cons, List.take_zero, List.drop_succ_cons, List.drop_zero]
  repeat (go_big_quiet_step (((first | (go_at_call 25; exact (HVx.out _).within)))))
  refine wpQuiet_nil ?_
  rintro _ ⟨z, rfl⟩
  go_wp2
  go_ret
  exact ⟨rfl, (Grew.refl _).more _⟩
set_option maxHeartbeats 1000000 in
set_option maxRecDepth 20000 in
theorem truthE_any (env : List (List Vl)) (he : RwsOk env) (E : Option Addr) (ke : Nat) : ∀ (n : Nat) (x : Ex), SizeOf.sizeOf x ≤ n → ExOk x → ∀ (A : Option Addr) (k : Nat) (w : World), ExsR (PRow w) A x.l → RwsR (PRow w) E env →
    Gives Try.prog 25 #[exV x A k, .slice E env.length ke] w (.int .i64 (evalT env x))
  | 0, x, hn, _, _, _, _, _, _ => by cases x; simp at hn
  | n + 1, x, hn, hx, A, k, w, ra, rb => by
    have ih := truthE_any env he E ke n
    obtain ⟨W0, hW0⟩ : ∃ W0, W0 = (w.alloc (.cells (exC x A k).toArray 26)).alloc (.cells #[.slice E env.length ke] 27) := ⟨_, rfl⟩
    have HG0 : Hid (Grew w W0) := Lib.hid (by rw [hW0]; exact ((Grew.refl w).alloc _).alloc _)
    have HX0 : Hid (Blok W0 w.heap.size 26 (exC x A k).toArray) := Lib.hid (by rw [hW0]; exact (Blok.new _ _ _ _ rfl).alloc _)
    have HE0 : Hid (Blok W0 (w.heap.size + 1) 27 #[.slice E env.length ke]) := Lib.hid (by rw [hW0]; exact Blok.new _ _ _ _ (by simp))
    have HPV : ∀ (i : Nat) (hi : i < x.l.length), ValC W0 w.heap.size (w.heap.size + 1) i (evalV env x.l[i]).1 (evalV env x.l[i]).2 := fun i hi W hW =>
      truv_any x A k env E ke _ _ i hi W _ _ (HX0.out.grew hW) (HE0.out.grew hW) (ra.grew (HG0.out.trans hW)) fun B j W' hp hg => valE_any env he E ke _ _ (Nat.le_refl _) (hx.part hi) B j W' (hp.grew hg) (rb.grew (HG0.out.trans (hW.trans hg)))
    have HPT : ∀ (i : Nat) (hi : i < x.l.length), TruC W0 w.heap.size (w.heap.size + 1) i (evalT env x.l[i]) := fun i hi W hW =>
      trut_any x A k env E ke _ _ i hi W _ (HX0.out.grew hW) (HE0.out.grew hW) (ra.grew (HG0.out.trans hW)) fun B j W' hp hg => ih _ (by
        have := size_part hi
        omega) (hx.part hi) B j W' (hp.grew hg) (rb.grew (HG0.out.trans (hW.trans hg)))
    have HS1 : Hid (x.l.length = 1 → Gives Try.prog 98 #[.int .i64 x.op, clV1 w.heap.size (w.heap.size + 1), clV2 w.heap.size (w.heap.size + 1)] W0 (.int .i64 (evalT env x))) := Lib.hid fun hl => by
      rw [evalT_one hl]
      exact one_any x.op _ _ W0 _ _ _ (HPV 0 (by omega)) (HPT 0 (by omega))
    have HS2 : Hid (x.l.length = 2 → Gives Try.prog 99 #[.int .i64 x.op, clV1 w.heap.size (w.heap.size + 1), clV2 w.heap.size (w.heap.size + 1)] W0 (.int .i64 (evalT env x))) := Lib.hid fun hl => by
      rw [evalT_two hl]
      exact two_any x.op _ _ W0 _ _ _ _ _ _ (HPV 0 (by omega)) (HPV 1 (by omega)) (HPT 0 (by omega)) (HPT 1 (by omega))
    clear HPV HPT ih ra rb
    obtain ⟨q0, s0, s1, s2, s3, s4, s5, s6, s7, s8⟩ := blok9 HX0.out
    clear HX0 HE0 hx hn
    by_cases h1 : x.l.length = 1
    · have HS := Lib.hid (HS1.out h1)
      have e1 : ((x.l.length : Int) == 1) = true := by rw [h1]; rfl
      clear HS1 HS2 h1
      unfold exV
      unfold clV1 clV2 at HS
      unfold Gives
      unfold exC at hW0
      generalize evalT env x = r at *
      generalize x.l.length = m at *
      generalize env.length = el at *
      go_enter Try.func25, Try.ntmps25
      go_upto_region 1 with fail
      rw [← hW0]
      clear hW0
      go_wp2_with (first
        | (go_at_call 98; (with_reducible refine (HS.out).grows.mono ?_); rintro e w4 ⟨rfl, hg4⟩; have HG4 : Hid (Grew w w4) := Lib.hid (HG0.out.trans hg4); clear hg4))
      go_ret
      exact ⟨rfl, HG4.out⟩
    · have e1 : ((x.l.length : Int) == 1) = false := by rw [beq_eq_false_iff_ne]; omega
      by_cases h2 : x.l.length = 2
      · have HS := Lib.hid (HS2.out h2)
        have e2 : ((x.l.length : Int) == 2) = true := by rw [h2]; rfl
        clear HS1 HS2 h1 h2
        unfold exV
        unfold clV1 clV2 at HS
        unfold Gives
        unfold exC at hW0
        generalize evalT env x = r at *
        generalize x.l.length = m at *
        generalize env.length = el at *
        go_enter Try.func25, Try.ntmps25
        go_upto_region 1 with fail
        rw [← hW0]
        clear hW0
        go_wp2_with (first
          | (go_at_call 99; (with_reducible refine (HS.out).grows.mono ?_); rintro e w4 ⟨rfl, hg4⟩; have HG4 : Hid (Grew w w4) := Lib.hid (HG0.out.trans hg4); clear hg4))
        go_ret
        exact ⟨rfl, HG4.out⟩
      · rw [evalT_else h1 h2]
        have e2 : ((x.l.length : Int) == 2) = false := by rw [beq_eq_false_iff_ne]; omega
        clear HS1 HS2 h1 h2
        unfold exV Gives
        unfold exC at hW0
        generalize x.l.length = m at *
        generalize env.length = el at *
        go_enter Try.func25, Try.ntmps25
        go_upto_region 1 with fail
        rw [← hW0]
        clear hW0
        go_wp2
        go_ret
        exact ⟨rfl, HG0.out⟩
end Go.Proofs.Ytddambfniaiogaa

/- Layer 13: the page's example, and the place of a code. No condition. -/
namespace Go.Proofs.Ytddambfniaiogaa
open Go.RowKit
attribute [local go_sem] more_cell more_frozen more_more more_setCell more_of_drew more_of_drewN lt_more le_more past_cell past_cell2 past_frozen past_frozen2 past_setCell past_setCell2 mid_cell mid_frozen mid_setCell
attribute [local go_sem ↓] Go.wp_at_zero Go.wp_at_succ

theorem code13_any (f : Int) (w : World) : Gives Try.prog 20 #[.int .i64 f] w (.int .i64 f) := by
  unfold Gives
  go_enter Try.func20, Try.ntmps20
  go_wp2
  go_ret
  exact ⟨rfl, by (show Grew _ _; repeat (first | exact Grew.refl _ | refine Grew.alloc ?_ _ | refine Grew.drew ?_ | refine Grew.more ?_ _))⟩
def leafE (op : Int) : Ex := .mk op es es 0 0 0 0 es []
def live13E : Ex := .mk 1 es es 0 0 0 0 es [leafE 15, leafE 16]
def live13N : Ex := .mk 12 es es 0 0 0 0 es [live13E]
def live13R : List (List Vl) := [[⟨1, 7, es⟩]]
theorem es_small : es.size ≤ 140737488355328 := by show (0 : Nat) ≤ _; omega
theorem leaf_ok (op : Int) (h : (Lit.int .i64 op).wf = true) : ExOk (leafE op) :=
  .mk _ h es_small es_small (show (Lit.int .i64 0).wf = true by decide) (show (Lit.int .i64 0).wf = true by decide) ⟨show (Lit.int .i64 0).wf = true by decide, show (Lit.int .i64 0).wf = true by decide, es_small⟩ (by show (0 : Nat) ≤ _; omega) (fun y hy => by cases hy)
theorem live13E_ok : ExOk live13E :=
  .mk _ (by decide) es_small es_small (by decide) (by decide) ⟨by decide, by decide, es_small⟩ (by show (2 : Nat) ≤ _; omega) (fun y hy => by
    simp only [live13E, Ex.l, List.mem_cons, List.not_mem_nil, or_false] at hy
    rcases hy with rfl | rfl
    · exact leaf_ok 15 (by decide)
    · exact leaf_ok 16 (by decide))
theorem live13N_ok : ExOk live13N :=
  .mk _ (by decide) es_small es_small (by decide) (by decide) ⟨by decide, by decide, es_small⟩ (by show (1 : Nat) ≤ _; omega) (fun y hy => by
    simp only [live13N, Ex.l, List.mem_cons, List.not_mem_nil, or_false] at hy
    subst hy
    exact live13E_ok)
theorem live13R_ok : RwsOk live13R := ⟨by show (1 : Nat) ≤ _; omega, fun r hr => by
  simp only [live13R, List.mem_cons, List.not_mem_nil, or_false] at hr
  subst hr
  refine ⟨by show (1 : Nat) ≤ _; omega, fun v hv => ?_⟩
  simp only [List.mem_cons, List.not_mem_nil, or_false] at hv
  subst hv
  exact ⟨by decide, by decide, es_small⟩⟩
theorem live13_a : evalV live13R (leafE 15) = (⟨1, 7, es⟩, 0) := by
  rw [evalV_col (by rfl)]
  rfl
theorem live13_b : evalV live13R (leafE 16) = (⟨0, 0, es⟩, 0) := by
  rw [evalV_val (by rfl)]
  rfl
theorem live13_e : evalT live13R live13E = 2 := by
  rw [evalT_two (by rfl)]
  show twoT 1 (evalV live13R (leafE 15)) (evalV live13R (leafE 16)) _ _ = 2
  rw [live13_a, live13_b]
  rfl
theorem live13_n : evalT live13R live13N = 2 := by
  rw [evalT_one (by rfl)]
  show oneT 12 _ (evalT live13R live13E) = 2
  rw [live13_e]
  rfl
theorem live13_parts {W : World} {g : Nat} (h : Row W (some ⟨g, 0, none⟩) (exC (leafE 15) none 0 ++ exC (leafE 16) none 0)) : ExsR (PRow W) (some ⟨g, 0, none⟩) live13E.l :=
  ⟨[exC (leafE 15) none 0, exC (leafE 16) none 0], listR_append (l := [leafE 15]) (listR_single (x := leafE 15) (exs_nil W) 0) (listR_single (x := leafE 16) (exs_nil W) 0), by simpa [PRow] using h⟩
theorem live13_one {W : World} {g : Nat} {A : Option Addr} {k : Nat} (h : Row W (some ⟨g, 0, none⟩) (exC live13E A k)) (ra : ExsR (PRow W) A live13E.l) : ExsR (PRow W) (some ⟨g, 0, none⟩) live13N.l :=
  ⟨[exC live13E A k], listR_single (x := live13E) ra k, by simpa [PRow] using h⟩
theorem live13_rows {W : World} {g b : Nat} (h : Row W (some ⟨g, 0, none⟩) [.slice (some ⟨b, 0, none⟩) 1 1]) (h2 : Row W (some ⟨b, 0, none⟩) [.int .i64 1, .int .i64 7, .string es]) : RwsR (PRow W) (some ⟨g, 0, none⟩) live13R :=
  ⟨[[.slice (some ⟨b, 0, none⟩) 1 1]], ⟨rfl, fun i x cs hi hd => by
    rcases i with _ | i
    · simp only [live13R, List.getElem?_cons_zero, Option.some.injEq] at hi hd
      subst hi hd
      exact ⟨⟨some ⟨b, 0, none⟩, 1, rfl, by simp, [[.int .i64 1, .int .i64 7, .string es]], ⟨rfl, fun j v ds hj hk => by
        rcases j with _ | j
        · simp only [List.getElem?_cons_zero, Option.some.injEq] at hj hk
          subst hj hk
          exact ⟨rfl, rfl⟩
        · simp at hj⟩, by simpa [PRow] using h2⟩, rfl⟩
    · simp [live13R] at hi⟩, by simpa [PRow] using h⟩
set_option maxHeartbeats 4000000 in
set_option maxRecDepth 100000 in
theorem live13_any (w : World) : Gives Try.prog 17 #[] w (.bool true) := by
  obtain ⟨W2, hW2⟩ : ∃ W2, W2 = (w.alloc (.cells #[.int .i64 15, .string ⟨#[]⟩, .string ⟨#[]⟩, .int .i64 0, .int .i64 0, .int .i64 0, .int .i64 0, .string ⟨#[]⟩, .slice none 0 0, .int .i64 16, .string ⟨#[]⟩, .string ⟨#[]⟩, .int .i64 0, .int .i64 0, .int .i64 0, .int .i64 0, .string ⟨#[]⟩, .slice none 0 0] 26)).alloc (.cells #[.int .i64 1, .string ⟨#[]⟩, .string ⟨#[]⟩, .int .i64 0, .int .i64 0, .int .i64 0, .int .i64 0, .string ⟨#[]⟩, .slice (some ⟨w.heap.size, 0, none⟩) 2 2] 26) := ⟨_, rfl⟩
  have HG2 : Hid (Grew w W2) := Lib.hid (by rw [hW2]; exact ((Grew.refl w).alloc _).alloc _)
  have HP : Hid (∀ W, Grew W2 W → ExsR (PRow W) (some ⟨w.heap.size, 0, none⟩) live13E.l) := Lib.hid fun W hW => live13_parts (Row.grew (by rw [hW2]; exact row_alloc (row_new w _ _ _ rfl) _ : Row W2 _ _) hW)
  have HX : Hid (∀ W, Grew W2 W → Blok W (w.heap.size + 1) 26 (exC live13E (some ⟨w.heap.size, 0, none⟩) 2).toArray) := Lib.hid fun W hW => Blok.grew (by rw [hW2]; exact Blok.new _ _ _ _ (by simp) : Blok W2 _ _ _) hW
  obtain ⟨W3, hW3⟩ : ∃ W3, W3 = (W2.alloc (.cells #[.int .i64 1, .int .i64 7, .string ⟨#[]⟩] 23)).alloc (.cells #[.slice (some ⟨W2.heap.size, 0, none⟩) 1 1] 46) := ⟨_, rfl⟩
  have HG3 : Hid (Grew W2 W3) := Lib.hid (by rw [hW3]; exact ((Grew.refl _).alloc _).alloc _)
  have HR : Hid (∀ W, Grew W3 W → RwsR (PRow W) (some ⟨W2.heap.size + 1, 0, none⟩) live13R) := Lib.hid fun W hW => live13_rows (Row.grew (by rw [hW3]; exact row_new _ _ _ _ (by simp) : Row W3 _ _) hW) (Row.grew (by rw [hW3]; exact row_alloc (row_new _ _ _ _ rfl) _ : Row W3 _ _) hW)
  obtain ⟨gp, hgp⟩ : ∃ gp, w.heap.size = gp := ⟨_, rfl⟩
  obtain ⟨gr, hgr⟩ : ∃ gr, W2.heap.size = gr := ⟨_, rfl⟩
  have HV : Hid (∀ W, Grew W3 W → Gives Try.prog 18 #[.agg #[.int .i64 15, .string ⟨#[]⟩, .string ⟨#[]⟩, .int .i64 0, .int .i64 0, .int .i64 0, .int .i64 0, .string ⟨#[]⟩, .slice none 0 0], .slice (some ⟨gr + 1, 0, none⟩) 1 1] W (.tuple #[.agg #[.int .i64 1, .int .i64 7, .string ⟨#[]⟩], .int .i64 0])) := Lib.hid fun W hW => by
    have h := valE_any live13R live13R_ok (some ⟨gr + 1, 0, none⟩) 1 _ (leafE 15) (Nat.le_refl _) (leaf_ok 15 (by decide)) none 0 W (exs_nil W) (hgr ▸ HR.out W hW)
    rw [live13_a] at h
    exact h
  have HT : Hid (∀ W, Grew W3 W → Gives Try.prog 25 #[.agg #[.int .i64 1, .string ⟨#[]⟩, .string ⟨#[]⟩, .int .i64 0, .int .i64 0, .int .i64 0, .int .i64 0, .string ⟨#[]⟩, .slice (some ⟨gp, 0, none⟩) 2 2], .slice (some ⟨gr + 1, 0, none⟩) 1 1] W (.int .i64 2)) := Lib.hid fun W hW => by
    have h := truthE_any live13R live13R_ok (some ⟨gr + 1, 0, none⟩) 1 _ live13E (Nat.le_refl _) live13E_ok (some ⟨gp, 0, none⟩) 2 W (hgp ▸ HP.out W (HG3.out.trans hW)) (hgr ▸ HR.out W hW)
    rw [live13_e] at h
    exact h
  have HN : Hid (∀ W, Grew W3 W → Gives Try.prog 25 #[.agg #[.int .i64 12, .string ⟨#[]⟩, .string ⟨#[]⟩, .int .i64 0, .int .i64 0, .int .i64 0, .int .i64 0, .string ⟨#[]⟩, .slice (some ⟨W.heap.size, 0, none⟩) 1 1], .slice (some ⟨gr + 1, 0, none⟩) 1 1] (W.alloc (.cells #[.int .i64 1, .string ⟨#[]⟩, .string ⟨#[]⟩, .int .i64 0, .int .i64 0, .int .i64 0, .int .i64 0, .string ⟨#[]⟩, .slice (some ⟨gp, 0, none⟩) 2 2] 26)) (.int .i64 2)) := Lib.hid fun W hW => by
    have hg : Grew W3 (W.alloc (.cells #[.int .i64 1, .string ⟨#[]⟩, .string ⟨#[]⟩, .int .i64 0, .int .i64 0, .int .i64 0, .int .i64 0, .string ⟨#[]⟩, .slice (some ⟨gp, 0, none⟩) 2 2] 26)) := hW.alloc _
    have h := truthE_any live13R live13R_ok (some ⟨gr + 1, 0, none⟩) 1 _ live13N (Nat.le_refl _) live13N_ok (some ⟨W.heap.size, 0, none⟩) 1 _ (live13_one (A := some ⟨gp, 0, none⟩) (k := 2) (row_new W _ _ _ rfl) (hgp ▸ HP.out _ (HG3.out.trans hg))) (hgr ▸ HR.out _ hg)
    rw [live13_n] at h
    exact h
  have HGP := Lib.hid hgp
  have HGR := Lib.hid hgr
  clear HR HP hgp hgr
  unfold Gives
  go_enter Try.func17, Try.ntmps17
  go_upto_region 2 with fail
  rw [← hW2]
  clear hW2
  rw [HGP.out] at HX ⊢
  clear HGP
  go_upto_region 3 with fail
  rw [← hW3]
  clear hW3
  rw [HGR.out] at ⊢
  clear HGR
  go_upto_region 4 with (go_at_call 18; (with_reducible refine (HV.out _ (Grew.refl _)).grows.mono ?_); rintro e w4 ⟨rfl, hg4⟩; have HG4 := Lib.hid hg4; clear hg4)
  obtain ⟨W4, hW4⟩ : ∃ W4, W4 = w4.alloc (.cells #[.int .i64 1, .int .i64 7, .string ⟨#[]⟩] 23) := ⟨_, rfl⟩
  have HG4 : Hid (Grew W3 W4) := Lib.hid (by rw [hW4]; exact HG4.out.alloc _)
  have HB4 : Hid (Blok W4 w4.heap.size 23 #[.int .i64 1, .int .i64 7, .string ⟨#[]⟩]) := Lib.hid (by rw [hW4]; exact Blok.new _ _ _ _ rfl)
  rw [← hW4]
  clear hW4 HV
  generalize w4.heap.size = g4 at *
  obtain ⟨la, a0, a1, a2, a3, a4, a5, a6, a7, a8⟩ := blok9c (HX.out _ (HG3.out.trans HG4.out))
  go_wp2_with fail
  refine (HT.out _ HG4.out).grows.mono ?_
  rintro e w5 ⟨rfl, hg5⟩
  have HG5 := Lib.hid (HG4.out.trans hg5)
  have HB5 := Lib.hid (HB4.out.grew hg5)
  clear hg5 HB4 HT la a0 a1 a2 a3 a4 a5 a6 a7 a8
  obtain ⟨la, a0, a1, a2, a3, a4, a5, a6, a7, a8⟩ := blok9c (HX.out _ (HG3.out.trans HG5.out))
  go_wp2_with fail
  refine (HN.out _ HG5.out).grows.mono ?_
  rintro e w6 ⟨rfl, hg6⟩
  have HG6 := Lib.hid (HG5.out.trans ((Grew.alloc (Grew.refl _) _).trans hg6))
  obtain ⟨p1, c0, c1, c2, d0, d1, d2⟩ := val_in (HB5.out.grew ((Grew.alloc (Grew.refl _) _).trans hg6))
  clear hg6 HN la a0 a1 a2 a3 a4 a5 a6 a7 a8
  go_wp2_with (go_at_call 20; (with_reducible refine (code13_any _ _).grows.mono ?_); rintro e w7 ⟨rfl, hg7⟩; have HG7 := Lib.hid (HG6.out.trans hg7); clear hg7)
  go_ret
  exact ⟨rfl, HG2.out.trans (HG3.out.trans HG7.out)⟩
end Go.Proofs.Ytddambfniaiogaa

/- Rows that are cloned or copied. No condition. -/
namespace Go.Proofs.Ytddambfniaiogaa
open Go.RowKit
attribute [local go_sem] more_cell more_frozen more_more more_setCell more_of_drew more_of_drewN lt_more le_more past_cell past_cell2 past_frozen past_frozen2 past_setCell past_setCell2 mid_cell mid_frozen mid_setCell
attribute [local go_sem ↓] Go.wp_at_zero Go.wp_at_succ

theorem ListR.one {α : Type} {R : α → List Value → Prop} {l : List α} {css : List (List Value)} (h : ListR R 1 l css) (p : Value → Prop) (hp : ∀ x cs, R x cs → ∀ u ∈ cs, p u) : ∀ u ∈ css.flatten, p u := by
  intro u hu
  rw [List.mem_flatten] at hu
  obtain ⟨cs, hcs, hu⟩ := hu
  obtain ⟨i, hi, rfl⟩ := List.mem_iff_getElem.1 hcs
  exact hp _ _ (h.2 i (l[i]'(by rw [← h.1]; exact hi)) _ (List.getElem?_eq_getElem _) (List.getElem?_eq_getElem hi)).1 u hu
theorem infoRw : (Try.prog.info? 46).map (fun i => (i.zero, i.size, i.bytes)) = some (some (.slice none 0 0), 1, 24) := by kernel_rfl
/-- A slice of its own that reads as xs. -/
def MineF (w : World) (e : TypeId) (n : Nat) (xs : List Value) (en : Ending) (w' : World) : Prop := ∃ A k, en = .returned (.slice A n k) ∧ n ≤ k ∧ Grew w w' ∧ TRow w.heap.size w' e A xs
@[local go_sem] theorem eql_nilR (w : World) (a : Option Addr) (n c : Nat) : (binOp .eql 27 (.slice a n c) (.slice none 0 0)).run Try.prog w = .ok (.bool a.isNone) w := Lib.run_eql_slice_nil w _ _ a n c 0 0 Try.underlying27
theorem clone_rows (xs : List Value) (n : Nat) (hl : xs.length = n) (hn : n ≤ 1000000) (h1 : ∀ u ∈ xs, u.oneCell' = true) (A : Option Addr) (k : Nat) (w : World) (ra : Row w A xs) :
    Calls Try.prog 101 #[.slice A n k] w (MineF w 46 n xs) := by
  have HL := Lib.hid hl
  have HR := Lib.hid ra
  have H1 := Lib.hid h1
  clear hl ra h1
  rcases A with _ | a
  · have hxs : xs = [] := by
      rcases HR.out with h | ⟨b, o, h, _⟩
      · exact h
      · cases h
    have hn0 : n = 0 := by rw [← HL.out, hxs]; rfl
    have HX := Lib.hid hxs
    subst hn0
    clear hxs
    go_enter Try.func101, Try.ntmps101
    go_wp2
    go_ret
    exact ⟨none, 0, rfl, Nat.le_refl _, Grew.refl w, Or.inl HX.out⟩
  · go_enter Try.func101, Try.ntmps101
    go_wp2_with (at_builtin; refine wpList_app rfl _ _ 27 46 rfl w (.slice none 0 0) 24 Try.underlying27 infoRw rfl (by decide) _ 0 [] rfl (own_empty w _ _ _ _ rfl (Nat.le_refl _)) _ n k xs rfl HL.out (row_alloc HR.out _) H1.out (by omega) ((Grew.refl w).alloc _) ?_; intro A' c' w' ho' _ hg' _ _; have HO := Lib.hid ho'; have HG := Lib.hid hg'; clear ho' hg')
    go_ret
    refine ⟨A', c', by first | rfl | rw [Nat.zero_add], ?_, HG.out, ?_⟩
    · have := own_cap' HO.out; omega
    · have h := HO.out
      rw [List.nil_append, Nat.zero_add] at h
      exact TRow.own h
theorem run_copy_in {P : Program} {w : World} {T elem ty t : TypeId} (hu : P.underlying T = some (.slice elem)) (hs : (P.info? elem).map (·.size) = some 1) {g o dLen dCap sLen sCap : Nat} {dp sp : Option Addr} {cur xs : List Value}
    (hg : w.heap[g]? = some (.cells cur.toArray t (0, 0))) (hx : xs.length = sLen) (hle : sLen ≤ dLen) (hd : 0 < sLen → dp = some ⟨g, o, none⟩) (hr : Row w sp xs) (hfit : o + sLen ≤ cur.length) (h1 : ∀ u ∈ xs, u.oneCell' = true)
    {B : Nat} {w0 : World} (hb : Below B w0 w) (hBg : B ≤ g) :
    ∃ w', (Builtin.copy_ #[T, T] ty #[.slice dp dLen dCap, .slice sp sLen sCap]).run P w = .ok (.int .i64 sLen) w' ∧ w'.heap[g]? = some (.cells (splice cur o xs).toArray t (0, 0)) ∧ Below B w0 w' := by
  have hmin : Nat.min sLen dLen = sLen := Nat.min_eq_left hle
  by_cases h0 : sLen = 0
  · refine ⟨w, ?_, ?_, hb⟩
    · have := run_copy_none (P := P) w T T ty elem dp sp dLen dCap sLen sCap hu hs (by rw [hmin]; exact h0)
      rw [this, h0]; rfl
    · have hxs : xs = [] := List.eq_nil_of_length_eq_zero (by omega)
      rw [hg, hxs]
      unfold splice
      simp
  · obtain rfl := hd (by omega)
    rcases hr with hr | ⟨b', o', rfl, hlt, hc⟩
    · rw [hr] at hx; simp at hx; omega
    · have := run_copy_row (P := P) w T T ty elem g o dLen dCap ⟨b', o', none⟩ sLen sCap cur.toArray t xs hu hs hg (by rw [hmin]; exact hx) (fun j v hv => by rw [add_plain]; exact hc j v hv) (by simpa [hx] using hfit) h1
      rw [hx] at this
      exact ⟨_, this, by rw [setRow_heap w g _ _ t (0, 0) hg]; unfold splice; simp [hx], below_setRow hb hBg _⟩
theorem rwR_one {R : Rw} {x : List Vl} {cs : List Value} (h : RwR R x cs) : ∀ u ∈ cs, u.oneCell' = true := by
  obtain ⟨A, k, rfl, _⟩ := h
  intro u hu
  simp at hu
  subst hu
  rfl
theorem ListR.append {α : Type} {R : α → List Value → Prop} {size : Nat} {l m : List α} {css dss : List (List Value)} (h : ListR R size l css) (k : ListR R size m dss) : ListR R size (l ++ m) (css ++ dss) := by
  refine ⟨by simp [h.1, k.1], fun j x cs h1 h2 => ?_⟩
  rcases Nat.lt_or_ge j l.length with hj | hj
  · rw [List.getElem?_append_left hj] at h1
    rw [List.getElem?_append_left (by rw [h.1]; exact hj)] at h2
    exact h.2 j x cs h1 h2
  · rw [List.getElem?_append_right hj] at h1
    rw [List.getElem?_append_right (by rw [h.1]; exact hj), h.1] at h2
    exact k.2 _ x cs h1 h2
end Go.Proofs.Ytddambfniaiogaa

/- eval.With: rows with another one. Condition: no more than a thousand rows. -/
namespace Go.Proofs.Ytddambfniaiogaa
open Go.RowKit
attribute [local go_sem] more_cell more_frozen more_more more_setCell more_of_drew more_of_drewN lt_more le_more past_cell past_cell2 past_frozen past_frozen2 past_setCell past_setCell2 mid_cell mid_frozen mid_setCell
attribute [local go_sem ↓] Go.wp_at_zero Go.wp_at_succ

/-- Rows with another one at a place. -/
def withE (env : List (List Vl)) (t : Int) (r : List Vl) : List (List Vl) := if 0 ≤ t ∧ t ≤ 63 then (env ++ List.replicate (t.toNat + 1 - env.length) []).set t.toNat r else env
theorem withE_out {env : List (List Vl)} {t : Int} {r : List Vl} (h : ¬ (0 ≤ t ∧ t ≤ 63)) : withE env t r = env := if_neg h
theorem withE_in (env : List (List Vl)) {n : Nat} (r : List Vl) (h : n ≤ 63) : withE env n r = (env ++ List.replicate (n + 1 - env.length) []).set n r := by
  unfold withE
  rw [if_pos (by omega)]
  simp
theorem withE_len (env : List (List Vl)) {n : Nat} (r : List Vl) (h : n ≤ 63) : (withE env n r).length = env.length + (n + 1 - env.length) := by
  rw [withE_in env r h]
  simp
theorem ListR.set {α : Type} {R : α → List Value → Prop} {size : Nat} {l : List α} {css : List (List Value)} (h : ListR R size l css) (i : Nat) {x : α} {cs : List Value} (hx : R x cs) (hs : cs.length = size) : ListR R size (l.set i x) (css.set i cs) := by
  refine ⟨by simp [h.1], fun j y ds h1 h2 => ?_⟩
  rw [List.getElem?_set] at h1 h2
  by_cases hij : i = j
  · rw [if_pos hij] at h1 h2
    split at h1
    · rw [if_pos (by rw [h.1]; assumption)] at h2
      simp at h1 h2
      subst h1 h2
      exact ⟨hx, hs⟩
    · cases h1
  · rw [if_neg hij] at h1 h2
    exact h.2 j y ds h1 h2
theorem ListR.same {α : Type} {R : α → List Value → Prop} {size : Nat} {x : α} {cs : List Value} (hx : R x cs) (hs : cs.length = size) (n : Nat) : ListR R size (List.replicate n x) (List.replicate n cs) := by
  refine ⟨by simp, fun j y ds h1 h2 => ?_⟩
  rw [List.getElem?_replicate] at h1 h2
  split at h1
  · rw [if_pos (by assumption)] at h2
    simp at h1 h2
    subst h1 h2
    exact ⟨hx, hs⟩
  · cases h1
theorem flatten_set1 (v : Value) : ∀ (css : List (List Value)) (_ : ∀ cs ∈ css, cs.length = 1) (i : Nat), (css.set i [v]).flatten = css.flatten.set i v
  | [], _, i => by simp
  | cs :: css, h, i => by
    obtain ⟨u, rfl⟩ : ∃ u, cs = [u] := List.length_eq_one_iff.1 (h cs (by simp))
    rcases i with _ | i
    · simp
    · have := flatten_set1 v css (fun ds hd => h ds (by simp [hd])) i
      simp [this]
theorem flatten_same1 (v : Value) (n : Nat) : (List.replicate n [v]).flatten = List.replicate n v := by
  induction n with
  | zero => rfl
  | succ n ih => rw [List.replicate_succ, List.flatten_cons, ih]; rfl
def WithF (w : World) (l : List (List Vl)) (e : Ending) (w' : World) : Prop := ∃ A k, e = .returned (.slice A l.length k) ∧ Grew w w' ∧ RwsR (PRow w') A l
theorem rwR_nil (w : World) : RwR (PRow w) [] [.slice none 0 0] := ⟨none, 0, rfl, by simp, [], ListR.nil, Or.inl rfl⟩
set_option maxHeartbeats 4000000 in
set_option maxRecDepth 100000 in
theorem with_any (env : List (List Vl)) (hl : env.length ≤ 1000) (E : Option Addr) (ke : Nat) (t : Int) (r : List Vl) (R : Option Addr) (kr : Nat) (hk : r.length ≤ kr) (w : World) (ra : RwsR (PRow w) E env) (rr : VlsR (PRow w) R r) :
    Calls Try.prog 27 #[.slice E env.length ke, .int .i64 t, .slice R r.length kr] w (WithF w (withE env t r)) := by
  obtain ⟨css, h1, h2⟩ := ra
  have hlen : css.flatten.length = env.length := by rw [h1.flat, Nat.mul_one]
  have hone : ∀ u ∈ css.flatten, u.oneCell' = true := h1.one _ fun x cs hx => rwR_one hx
  have H1 := Lib.hid h1
  have HR := Lib.hid rr
  have HC : Hid (∀ W, Grew w W → Calls Try.prog 101 #[.slice E env.length ke] W (MineF W 46 env.length css.flatten)) := Lib.hid fun W hW => clone_rows css.flatten _ hlen (by omega) hone E ke W (Row.grew h2 hW)
  by_cases ht0 : t < 0
  · rw [withE_out (by omega)]
    clear h1 h2 hlen hone rr hk
    obtain ⟨n, hn⟩ : ∃ n, env.length = n := ⟨_, rfl⟩
    have HN := Lib.hid hn
    rw [hn] at HC hl ⊢
    clear hn
    go_enter Try.func27, Try.ntmps27
    go_wp2_with fail
    refine (HC.out _ (Grew.refl w)).mono ?_
    rintro e w2 ⟨A2, k2, rfl, hk2, hg2, hr2⟩
    have HF : Hid (Grew w w2 ∧ RwsR (PRow w2) A2 env) := Lib.hid ⟨hg2, css, H1.out.map fun x cs hx => hx.imp fun _ _ _ h => Row.grew h hg2, hr2.plain⟩
    clear hg2 hr2
    go_wp2
    go_ret
    obtain ⟨q1, q2⟩ := HF.out
    exact ⟨A2, k2, by rw [HN.out]; rfl, q1, q2⟩
  by_cases ht63 : 63 < t
  · rw [withE_out (by omega)]
    clear h1 h2 hlen hone rr hk
    have ht0' : 0 ≤ t := by omega
    obtain ⟨n, hn⟩ : ∃ n, env.length = n := ⟨_, rfl⟩
    have HN := Lib.hid hn
    rw [hn] at HC hl ⊢
    clear hn
    go_enter Try.func27, Try.ntmps27
    go_wp2_with fail
    refine (HC.out _ (Grew.refl w)).mono ?_
    rintro e w2 ⟨A2, k2, rfl, hk2, hg2, hr2⟩
    have HF : Hid (Grew w w2 ∧ RwsR (PRow w2) A2 env) := Lib.hid ⟨hg2, css, H1.out.map fun x cs hx => hx.imp fun _ _ _ h => Row.grew h hg2, hr2.plain⟩
    clear hg2 hr2
    go_wp2
    go_ret
    obtain ⟨q1, q2⟩ := HF.out
    exact ⟨A2, k2, by rw [HN.out]; rfl, q1, q2⟩
  obtain ⟨n, rfl⟩ : ∃ n : Nat, t = n := ⟨t.toNat, by omega⟩
  have hn : n ≤ 63 := by omega
  have HWL := Lib.hid (withE_len env r hn)
  have HWI := Lib.hid (withE_in env r hn)
  obtain ⟨L, hL⟩ : ∃ L, env.length = L := ⟨_, rfl⟩
  obtain ⟨m, hm⟩ : ∃ m, L + (n + 1 - L) = m := ⟨_, rfl⟩
  have hmx : max (L : Int) ((n : Int) + 1) = (m : Int) := by omega
  have hnm : n < m := by omega
  have hLm : L ≤ m := by omega
  have hm1 : m ≤ 1100 := by omega
  rw [hL] at HWL HWI hlen hl ⊢
  have HM := Lib.hid hm
  have HLE := Lib.hid hlen
  have HK := Lib.hid hk
  have HL := Lib.hid hL
  obtain ⟨w2, hcr, hh2, hb2⟩ := run_copy_in (P := Try.prog) (w := w.alloc (.cells (madeCells #[.slice none 0 0] m) 46)) (T := 27) (ty := 3) (g := w.heap.size) (o := 0) (dLen := m) (dCap := m) (sLen := L) (sCap := ke) (dp := some ⟨w.heap.size, 0, none⟩) (sp := E) (cur := List.replicate m (.slice none 0 0)) (xs := css.flatten) (t := 46) Try.underlying27 (by kernel_rfl) (by
    rw [heap_alloc_new]
    congr 2
    apply Array.ext'
    rw [toList_madeCells_one]) hlen hLm (fun _ => rfl) (row_alloc h2 _) (by simp; omega) hone ((Below.refl _ w).alloc (Nat.le_refl _) _) (Nat.le_refl _)
  have HSP : splice (List.replicate m (Value.slice none 0 0)) 0 css.flatten = (css ++ List.replicate (n + 1 - L) [Value.slice none 0 0]).flatten := by
    unfold splice
    rw [List.take_zero, List.nil_append, List.drop_replicate, List.flatten_append, flatten_same1, hlen]
    congr 2
    omega
  rw [HSP] at hh2
  have HB2 : Hid (Blok w2 w.heap.size 46 (css ++ List.replicate (n + 1 - L) [Value.slice none 0 0]).flatten.toArray) := Lib.hid hh2
  have HG2 : Hid (Grew w w2) := Lib.hid (Grew.of_below hb2)
  obtain ⟨i0, hi, hz0, hz1, hz2⟩ := info_parts infoRw
  have HJ := Lib.hid hi
  have HJ0 := Lib.hid hz0
  have HJ1 := Lib.hid hz1
  have HJ2 := Lib.hid hz2
  have hlt := HB2.out.lt
  have hth := HB2.out.thaw n
  have hfl : ((css ++ List.replicate (n + 1 - L) [Value.slice none 0 0]).flatten).length = m := by
    rw [List.flatten_append, flatten_same1, List.length_append, hlen, List.length_replicate, hm]
  obtain ⟨u, hu⟩ : ∃ u, w2.cell? ⟨w.heap.size, n, none⟩ = some u := ⟨_, by
    rw [HB2.out.cell n]
    exact Array.getElem?_eq_getElem (by simpa using (by rw [hfl]; exact hnm : n < ((css ++ List.replicate (n + 1 - L) [Value.slice none 0 0]).flatten).length))⟩
  clear hi hz0 hz1 hz2 hh2 hb2 h1 h2 hone HSP hfl hlen hm hk hL rr HC
  go_enter Try.func27, Try.ntmps27
  go_wp2_with (at_make; refine wpList_make_row _ rfl _ _ 27 rfl 46 i0 (.slice none 0 0) Try.underlying27 HJ.out HJ0.out HJ1.out rfl _ _ m rfl rfl (by rw [HJ2.out]; omega) (by omega) ?_)
  go_ret
  refine ⟨some ⟨w.heap.size, 0, none⟩, m, ?_, Grew.setCell HG2.out (Nat.le_refl _) _, (css ++ List.replicate (n + 1 - L) [Value.slice none 0 0]).set n [.slice R r.length kr], ?_, ?_⟩
  · rw [HWL.out, HM.out]
    rfl
  · rw [HWI.out]
    have hg := Grew.setCell (a := ⟨w.heap.size, n, none⟩) HG2.out (Nat.le_refl _) (.slice R r.length kr)
    exact ((H1.out.map fun x cs hx => hx.imp fun _ _ _ h => Row.grew h hg).append (ListR.same (rwR_nil _) rfl _)).set n ⟨R, kr, rfl, HK.out, HR.out.grew hg⟩ rfl
  · rw [flatten_set1 _ _ (by
      intro cs hc
      rcases List.mem_append.1 hc with h | h
      · exact H1.out.all cs h
      · rw [(List.mem_replicate.1 h).2]; rfl)]
    have hb := HB2.out.set n (.slice R r.length kr)
    have hx := hb.lt
    refine Or.inr ⟨w.heap.size, 0, rfl, hx, fun j v hv => ?_⟩
    rw [Nat.zero_add, hb.cell j]
    simpa using hv
end Go.Proofs.Ytddambfniaiogaa

/- What hangs on the values of an expression's columns alone. No condition. -/
namespace Go.Proofs.Ytddambfniaiogaa
open Go.RowKit

theorem colsE_mem {l : List Ex} {z y : Ex} (hz : z ∈ l) (hy : y ∈ z.cols) : y ∈ colsE l := by
  induction l with
  | nil => cases hz
  | cons u l ih =>
    simp only [colsE, List.mem_append]
    rcases List.mem_cons.1 hz with rfl | h
    · exact Or.inl hy
    · exact Or.inr (ih h)
theorem evalV_same {a b : List (List Vl)} (x : Ex) : (∀ y ∈ x.cols, atE a y.t y.c = atE b y.t y.c) → evalV a x = evalV b x := by
  refine ex_ind (P := fun x => (∀ y ∈ x.cols, atE a y.t y.c = atE b y.t y.c) → evalV a x = evalV b x) (fun x ih h => ?_) x
  by_cases h15 : x.op = 15
  · rw [evalV_col h15, evalV_col h15, h x (by rw [cols_in h15]; simp)]
  have hp : ∀ z ∈ x.l, evalV a z = evalV b z := fun z hz => ih z hz fun y hy => h y (by rw [cols_out h15]; exact colsE_mem hz hy)
  by_cases h16 : x.op = 16
  · rw [evalV_val h16, evalV_val h16]
  by_cases h79 : x.op < 7 ∨ 9 < x.op
  · rw [evalV_other h15 h16 h79, evalV_other h15 h16 h79]
  by_cases h2 : x.l.length = 2
  · rw [evalV_two (by omega) (by omega) h2, evalV_two (by omega) (by omega) h2, hp _ (List.getElem_mem _), hp _ (List.getElem_mem _)]
  · rw [evalV_not (by omega) (by omega) h2, evalV_not (by omega) (by omega) h2]
theorem evalT_15 {a : List (List Vl)} {x : Ex} (h15 : x.op = 15) : evalT a x = 2 := by
  by_cases h1 : x.l.length = 1
  · rw [evalT_one h1, h15]; simp [oneT]
  by_cases h2 : x.l.length = 2
  · rw [evalT_two h2, h15]; simp [twoT]
  · exact evalT_else h1 h2
theorem evalT_same {a b : List (List Vl)} (x : Ex) : (∀ y ∈ x.cols, atE a y.t y.c = atE b y.t y.c) → evalT a x = evalT b x := by
  refine ex_ind (P := fun x => (∀ y ∈ x.cols, atE a y.t y.c = atE b y.t y.c) → evalT a x = evalT b x) (fun x ih h => ?_) x
  by_cases h15 : x.op = 15
  · rw [evalT_15 h15, evalT_15 h15]
  have hq : ∀ z ∈ x.l, ∀ y ∈ z.cols, atE a y.t y.c = atE b y.t y.c := fun z hz y hy => h y (by rw [cols_out h15]; exact colsE_mem hz hy)
  have hp : ∀ z ∈ x.l, evalT a z = evalT b z := fun z hz => ih z hz (hq z hz)
  have hv : ∀ z ∈ x.l, evalV a z = evalV b z := fun z hz => evalV_same z (hq z hz)
  by_cases h1 : x.l.length = 1
  · rw [evalT_one h1, evalT_one h1, hp _ (List.getElem_mem _), hv _ (List.getElem_mem _)]
  by_cases h2 : x.l.length = 2
  · rw [evalT_two h2, evalT_two h2, hp _ (List.getElem_mem _), hp _ (List.getElem_mem _), hv _ (List.getElem_mem _), hv _ (List.getElem_mem _)]
  · rw [evalT_else h1 h2, evalT_else h1 h2]
theorem withE_size {env : List (List Vl)} {t : Int} {r : List Vl} (h1 : (env.length : Int) ≤ t) (h2 : t ≤ 63) : ((withE env t r).length : Int) = t + 1 := by
  obtain ⟨n, rfl⟩ : ∃ n : Nat, t = n := ⟨t.toNat, by omega⟩
  rw [withE_len env r (by omega)]
  omega
theorem withE_size' {env : List (List Vl)} {t : Int} {r : List Vl} (h : ¬ ((env.length : Int) ≤ t ∧ t ≤ 63)) : (withE env t r).length = env.length := by
  by_cases h2 : 0 ≤ t ∧ t ≤ 63
  · obtain ⟨n, rfl⟩ : ∃ n : Nat, t = n := ⟨t.toNat, by omega⟩
    rw [withE_len env r (by omega)]
    omega
  · rw [withE_out h2]
theorem withE_le (env : List (List Vl)) (t : Int) (r : List Vl) : (withE env t r).length ≤ env.length + 64 := by
  by_cases h2 : (env.length : Int) ≤ t ∧ t ≤ 63
  · have := withE_size (r := r) h2.1 h2.2; omega
  · rw [withE_size' h2]; omega
theorem withE_this {env : List (List Vl)} {t : Int} {r : List Vl} {j : Nat} (hl : env.length ≤ 60) (h : j < (withE env t r).length) (ht : (j : Int) = t) : (withE env t r)[j] = r := by
  subst ht
  have h63 : j ≤ 63 := by
    by_cases h2 : (env.length : Int) ≤ j ∧ (j : Int) ≤ 63
    · omega
    · rw [withE_size' h2] at h; omega
  have e := withE_in env r h63
  have : (withE env j r)[j]? = some r := by
    rw [e, List.getElem?_set_self]
    rw [e] at h
    simpa using h
  rw [List.getElem?_eq_getElem h] at this
  exact Option.some.inj this
theorem withE_other {env : List (List Vl)} {t : Int} {r : List Vl} {j : Nat} (h : j < (withE env t r).length) (ht : ¬ (j : Int) = t) : (withE env t r)[j] = env.getD j [] := by
  by_cases h2 : 0 ≤ t ∧ t ≤ 63
  · obtain ⟨n, rfl⟩ : ∃ n : Nat, t = n := ⟨t.toNat, by omega⟩
    have hn : n ≠ j := by omega
    have e := withE_in env r (n := n) (by omega)
    have : (withE env n r)[j]? = some (env.getD j []) := by
      rw [e, List.getElem?_set_ne hn]
      rw [e] at h
      by_cases hj : j < env.length
      · rw [List.getElem?_append_left hj]
        simp [List.getD, hj]
      · rw [List.getElem?_append_right (by omega), List.getElem?_replicate, if_pos (by simp at h; omega)]
        simp [List.getD, List.getElem?_eq_none (Nat.le_of_not_lt hj)]
    rw [List.getElem?_eq_getElem h] at this
    exact Option.some.inj this
  · have e := withE_out (env := env) (r := r) h2
    have : (withE env t r)[j]? = some (env.getD j []) := by
      rw [e] at h ⊢
      simp [List.getD, h]
    rw [List.getElem?_eq_getElem h] at this
    exact Option.some.inj this
theorem withE_ok {env : List (List Vl)} {t : Int} {r : List Vl} (hl : env.length ≤ 60) (he : RwsOk env) (hr : RwOk r) : RwsOk (withE env t r) := by
  refine ⟨by have := withE_le env t r; omega, fun v hv => ?_⟩
  obtain ⟨j, hj, rfl⟩ := List.getElem_of_mem hv
  by_cases ht : (j : Int) = t
  · rw [withE_this hl hj ht]; exact hr
  · rw [withE_other hj ht]
    by_cases h : j < env.length
    · have : env.getD j [] = env[j] := by simp [List.getD, h]
      rw [this]
      exact he.2 _ (List.getElem_mem h)
    · have : env.getD j [] = [] := by simp [List.getD, List.getElem?_eq_none (Nat.le_of_not_lt h)]
      rw [this]
      exact ⟨by simp, fun v hv => by cases hv⟩
end Go.Proofs.Ytddambfniaiogaa

/- Layer 13: the law of what an expression hangs on. Condition: an expression and rows that lie in memory that is there, no part beyond the reach. -/
namespace Go.Proofs.Ytddambfniaiogaa
open Go.RowKit
attribute [local go_sem] more_cell more_frozen more_more more_setCell more_of_drew more_of_drewN lt_more le_more past_cell past_cell2 past_frozen past_frozen2 past_setCell past_setCell2 mid_cell mid_frozen mid_setCell
attribute [local go_sem ↓] Go.wp_at_zero Go.wp_at_succ

def WantAt (w : World) (n : Nat) (i : Value) (wr : World) : Prop := ∃ j : Nat, j ≤ n ∧ i = .int .i64 j ∧ Grew w wr
def HangAt (w : World) (a b : List (List Vl)) (l : List Ex) (i : Value) (wr : World) : Prop := ∃ j : Nat, j ≤ l.length ∧ i = .int .i64 j ∧ Grew w wr ∧ ∀ y ∈ l.take j, atE a y.t y.c = atE b y.t y.c
theorem vl_differ {x y : Vl} (h : ¬ x = y) : (x.k == y.k && (x.i == y.i && x.s.toList == y.s.toList)) = false := by
  rw [Bool.eq_false_iff]
  intro e
  simp only [Bool.and_eq_true, beq_iff_eq] at e
  obtain ⟨e1, e2, e3⟩ := e
  apply h
  cases x; cases y
  simp only at e1 e2 e3
  subst e1 e2
  rw [bytes_ext e3]
set_option maxHeartbeats 8000000 in
set_option maxRecDepth 100000 in
theorem evalHangs_walk (x : Ex) (A : Option Addr) (k : Nat) (env : List (List Vl)) (E : Option Addr) (ke : Nat) (t : Int) (r : List Vl) (R : Option Addr) (kr : Nat) (w : World) (hx : ExOk x) (he : RwsOk env) (hr : RwOk r) (hkr : r.length ≤ kr)
    (ra : ExsR (PRow w) A x.l) (rb : RwsR (PRow w) E env) (rr : VlsR (PRow w) R r) :
    Gives Try.prog 5 #[exV x A k, .slice E env.length ke, .int .i64 t, .slice R r.length kr] w (.bool true) := by
  have RA := Lib.hid ra
  have RB := Lib.hid rb
  have RR := Lib.hid rr
  have HX := Lib.hid hx
  have HE := Lib.hid he
  have HRO := Lib.hid hr
  have HKR := Lib.hid hkr
  have HM1 : Hid (∀ W, Grew w W → Calls Try.prog 15 #[exV x A k] W (MuchR W (x.nodes ≤ 200))) := Lib.hid fun W hW => much8_any x A k W (ra.grew hW)
  have HM2 : Hid (∀ W, Grew w W → Calls Try.prog 16 #[.slice E env.length ke] W (MuchR W (goodEnv env))) := Lib.hid fun W hW => much13_any env he E ke W (rb.grew hW)
  have HCo : Hid (x.nodes ≤ 200 → ∀ W, Grew w W → Calls Try.prog 29 #[exV x A k] W (ColsF w W x.cols)) := Lib.hid fun h W hW => rcols_ex _ x (Nat.lt_succ_self _) A k w W (by omega) hW RA.out
  have HVb : Hid (∀ (b : List (List Vl)) (_ : RwsOk b) (B : Option Addr) (kb : Nat) (W : World), Grew w W → RwsR (PRow W) B b → Gives Try.prog 18 #[exV x A k, .slice B b.length kb] W (.tuple #[vlV (evalV b x).1, .int .i64 (evalV b x).2])) := Lib.hid fun b hb B kb W hW h => valE_any b hb B kb _ x (Nat.le_refl _) hx A k W (ra.grew hW) h
  have HTb : Hid (∀ (b : List (List Vl)) (_ : RwsOk b) (B : Option Addr) (kb : Nat) (W : World), Grew w W → RwsR (PRow W) B b → Gives Try.prog 25 #[exV x A k, .slice B b.length kb] W (.int .i64 (evalT b x))) := Lib.hid fun b hb B kb W hW h => truthE_any b hb B kb _ x (Nat.le_refl _) hx A k W (ra.grew hW) h
  obtain ⟨W0, hW0⟩ : ∃ W0, W0 = w.alloc (.cells (exC x A k).toArray 26) := ⟨_, rfl⟩
  have HG0 : Hid (Grew w W0) := Lib.hid (by rw [hW0]; exact (Grew.refl w).alloc _)
  have HX0 : Hid (Blok W0 w.heap.size 26 (exC x A k).toArray) := Lib.hid (by rw [hW0]; exact Blok.new _ _ _ _ rfl)
  obtain ⟨L, hL⟩ : ∃ L, env.length = L := ⟨_, rfl⟩
  obtain ⟨n, hn⟩ : ∃ n, r.length = n := ⟨_, rfl⟩
  have HL := Lib.hid hL
  have HN := Lib.hid hn
  rw [hL] at HM2 ⊢
  rw [hn] at ⊢
  clear ra rb rr hx he hr hkr hL hn
  unfold exV at *
  unfold Gives
  go_enter Try.func5, Try.ntmps5
  go_upto_region 1 with fail
  change Code.wp _ _ _ _ (w.alloc (.cells (exC x A k).toArray 26))
  rw [← hW0]
  clear hW0
  generalize w.heap.size = g at *
  obtain ⟨la, a0, a1, a2, a3, a4, a5, a6, a7, a8⟩ := blok9 HX0.out
  go_wp2_with fail
  refine (HM1.out _ HG0.out).mono ?_
  rintro e w2 ⟨t1, rfl, hg2, h1⟩
  have HG2 := Lib.hid (HG0.out.trans hg2)
  have HX2 := Lib.hid (HX0.out.grew hg2)
  have H1 := Lib.hid h1
  clear hg2 h1 la a0 a1 a2 a3 a4 a5 a6 a7 a8 HM1 HX0
  cases t1
  rotate_left
  · clear HM2 HX2
    go_wp2_with (first | (go_at_call 17; (with_reducible refine (live13_any _).grows.mono ?_); rintro e w6 ⟨rfl, hg6⟩; have G6 := Lib.hid hg6; clear hg6))
    go_ret
    exact ⟨rfl, HG2.out.trans G6.out⟩
  go_wp2_with fail
  refine (HM2.out _ HG2.out).mono ?_
  rintro e w3 ⟨t2, rfl, hg3, h2⟩
  have HG3 := Lib.hid (HG2.out.trans hg3)
  have HX3 := Lib.hid (HX2.out.grew hg3)
  have H2 := Lib.hid h2
  clear hg3 h2 HM2 HX2
  cases t2
  rotate_left
  · clear HX3
    go_wp2_with (first | (go_at_call 17; (with_reducible refine (live13_any _).grows.mono ?_); rintro e w6 ⟨rfl, hg6⟩; have G6 := Lib.hid hg6; clear hg6))
    go_ret
    exact ⟨rfl, HG3.out.trans G6.out⟩
  by_cases h40 : 40 < n
  · have h40' : (40 : Int) < n := by omega
    clear HX3
    go_wp2_with (first | (go_at_call 17; (with_reducible refine (live13_any _).grows.mono ?_); rintro e w6 ⟨rfl, hg6⟩; have G6 := Lib.hid hg6; clear hg6))
    go_ret
    exact ⟨rfl, HG3.out.trans G6.out⟩
  have h40' : (n : Int) ≤ 40 := by omega
  have HNo : Hid (x.nodes ≤ 200) := Lib.hid (H1.out (by first | rfl | trivial))
  have HGo : Hid (goodEnv env) := Lib.hid (H2.out (by first | rfl | trivial))
  have h60 : L ≤ 60 := by rw [← HL.out]; exact HGo.out.1
  have HWi : Hid (∀ W, Grew w W → Calls Try.prog 27 #[.slice E L ke, .int .i64 t, .slice R n kr] W (WithF W (withE env t r))) := Lib.hid fun W hW => by
    have := with_any env (by rw [HL.out]; omega) E ke t r R kr HKR.out W (RB.out.grew hW) (RR.out.grew hW)
    rw [HL.out, HN.out] at this
    exact this
  have HBO : Hid (RwsOk (withE env t r)) := Lib.hid (withE_ok (by rw [HL.out]; omega) HE.out HRO.out)
  have HThis : Hid (∀ (j : Nat) (h : j < (withE env t r).length), (j : Int) = t → (withE env t r)[j] = r) := Lib.hid fun j h ht => withE_this (by rw [HL.out]; omega) h ht
  have HOther : Hid (∀ (j : Nat) (h : j < (withE env t r).length), ¬ (j : Int) = t → (withE env t r)[j] = env.getD j []) := Lib.hid fun j h ht => withE_other h ht
  have HS1 : Hid ((L : Int) ≤ t → t ≤ 63 → ((withE env t r).length : Int) = t + 1) := Lib.hid fun h1 h2 => withE_size (by rw [HL.out]; exact h1) h2
  have HS2 : Hid (¬ ((L : Int) ≤ t ∧ t ≤ 63) → (withE env t r).length = L) := Lib.hid fun h => by rw [withE_size' (by rw [HL.out]; exact h), HL.out]
  have HBL : Hid ((withE env t r).length ≤ 124) := Lib.hid (by have := withE_le env t r; rw [HL.out] at this; omega)
  generalize withE env t r = b at *
  obtain ⟨nb, hnb⟩ : ∃ nb, b.length = nb := ⟨_, rfl⟩
  have HNB := Lib.hid hnb
  have hb124 : nb ≤ 124 := by rw [← hnb]; exact HBL.out
  clear hnb HBL
  go_upto_region 4 with (first | (go_at_call 27; (with_reducible refine (HWi.out _ HG3.out).mono ?_); rintro e w4 ⟨B, kb, rfl, hg4, hb⟩; have HG4 := Lib.hid (HG3.out.trans hg4); have HX4 := Lib.hid (HX3.out.grew hg4); have RBB := Lib.hid hb; clear hg4 hb))
  rw [HNB.out]
  clear HWi HX3 HG3 HG2 HG0 H1 H2
  go_wp2
  go_loopw [10] (fun i wr => WantAt w4 nb i wr) (fun i _ => nb - (intOf i).toNat)
  case atStart => exact ⟨0, Nat.zero_le _, rfl, by (show Grew _ _; repeat (first | exact Grew.refl _ | refine Grew.alloc ?_ _ | refine Grew.drew ?_ | refine Grew.more ?_ _))⟩
  case round =>
    obtain ⟨j, hj, rfl, hg⟩ := hrel
    have HG5 := Lib.hid hg
    clear hg
    by_cases h : j < nb
    · have hjb : j < b.length := by rw [HNB.out]; exact h
      obtain ⟨bb, bo, P, kp, rfl, hbl, hbc, _, hbv⟩ := rwsR_at (RBB.out.grew HG5.out) hjb
      have HBV := Lib.hid hbv
      have hsz := (HBO.out.2 _ (List.getElem_mem hjb)).1
      clear hbv
      by_cases ht : (j : Int) = t
      · have ht1 : ((j : Int) == t) = true := by simp [ht]
        have heq := HThis.out j hjb ht
        have HS : Hid (∀ W, Grew wr W → Gives Try.prog 28 #[.slice P b[j].length kp, .slice R n kr] W (.bool true)) := Lib.hid fun W hW => by
          have := rsameRow_any b[j] r P R kp kr hsz true (by simp [heq]) W (HBV.out.grew hW) (RR.out.grew (HG4.out.trans (HG5.out.trans hW)))
          rw [HN.out] at this
          exact this
        clear heq ht
        generalize b[j].length = nj at *
        by_cases hjL : j < L
        · have hjE : j < env.length := by rw [HL.out]; exact hjL
          obtain ⟨eb, eo, Q, kq, rfl, hel, hec, _, _⟩ := rwsR_at (RB.out.grew (HG4.out.trans HG5.out)) hjE
          generalize env[j].length = ne at *
          go_wp2_with (first | (go_at_call 28; (with_reducible refine (HS.out _ (Grew.refl _)).grows.mono ?_); rintro e w6 ⟨rfl, hg6⟩; have HG6 := Lib.hid (HG5.out.trans hg6); clear hg6))
          exact ⟨⟨j + 1, by omega, by go_num, HG6.out⟩, by simp only [intOf]; omega⟩
        · have hjL' : (L : Int) ≤ j := by omega
          go_wp2_with (first | (go_at_call 28; (with_reducible refine (HS.out _ (Grew.refl _)).grows.mono ?_); rintro e w6 ⟨rfl, hg6⟩; have HG6 := Lib.hid (HG5.out.trans hg6); clear hg6))
          exact ⟨⟨j + 1, by omega, by go_num, HG6.out⟩, by simp only [intOf]; omega⟩
      · have ht1 : ((j : Int) == t) = false := by simp [ht]
        have heq := HOther.out j hjb ht
        by_cases hjL : j < L
        · have hjE : j < env.length := by rw [HL.out]; exact hjL
          obtain ⟨eb, eo, Q, kq, rfl, hel, hec, _, hev⟩ := rwsR_at (RB.out.grew (HG4.out.trans HG5.out)) hjE
          have heq2 : b[j] = env[j] := by rw [heq]; simp [List.getD, hjE]
          have HEV := Lib.hid hev
          have HS : Hid (∀ W, Grew wr W → Gives Try.prog 28 #[.slice P b[j].length kp, .slice Q env[j].length kq] W (.bool true)) := Lib.hid fun W hW => rsameRow_any b[j] env[j] P Q kp kq hsz true (by simp [heq2]) W (HBV.out.grew hW) (HEV.out.grew hW)
          clear heq heq2 ht hev
          generalize b[j].length = nj at *
          generalize env[j].length = ne at *
          go_wp2_with (first | (go_at_call 28; (with_reducible refine (HS.out _ (Grew.refl _)).grows.mono ?_); rintro e w6 ⟨rfl, hg6⟩; have HG6 := Lib.hid (HG5.out.trans hg6); clear hg6))
          exact ⟨⟨j + 1, by omega, by go_num, HG6.out⟩, by simp only [intOf]; omega⟩
        · have hjL' : (L : Int) ≤ j := by omega
          have heq2 : b[j] = [] := by rw [heq]; simp [List.getD, List.getElem?_eq_none (show env.length ≤ j by rw [HL.out]; omega)]
          have HS : Hid (∀ W, Grew wr W → Gives Try.prog 28 #[.slice P b[j].length kp, .slice none 0 0] W (.bool true)) := Lib.hid fun W hW => rsameRow_any b[j] [] P none kp 0 hsz true (by simp [heq2]) W (HBV.out.grew hW) ⟨[], ListR.nil, Or.inl rfl⟩
          clear heq heq2 ht
          generalize b[j].length = nj at *
          go_wp2_with (first | (go_at_call 28; (with_reducible refine (HS.out _ (Grew.refl _)).grows.mono ?_); rintro e w6 ⟨rfl, hg6⟩; have HG6 := Lib.hid (HG5.out.trans hg6); clear hg6))
          exact ⟨⟨j + 1, by omega, by go_num, HG6.out⟩, by simp only [intOf]; omega⟩
    · obtain rfl : j = nb := by omega
      have HJ1 : Hid ((L : Int) ≤ t → t ≤ 63 → (j : Int) = t + 1) := Lib.hid fun h1 h2 => by rw [← HS1.out h1 h2, HNB.out]
      have HJ2 : Hid (¬ ((L : Int) ≤ t ∧ t ≤ 63) → j = L) := Lib.hid fun h => by rw [← HS2.out h, HNB.out]
      clear HS1 HS2 HThis HOther h
      go_upto_region 15 with fail
      go_cut [68] (fun v wx => v = .bool (decide ((L : Int) ≤ t ∧ t ≤ 63)) ∧ wx = wr)
      case first =>
        by_cases c1 : (L : Int) ≤ t
        · by_cases c2 : t ≤ 63
          · go_wp2
            go_meet
            exact ⟨congrArg Value.bool (decide_eq_true (p := (L : Int) ≤ t ∧ t ≤ 63) (by omega)).symm, rfl⟩
          · have c2' : 63 < t := by omega
            go_wp2
            go_meet
            exact ⟨congrArg Value.bool (decide_eq_false (p := (L : Int) ≤ t ∧ t ≤ 63) (by omega)).symm, rfl⟩
        · have c1' : t < L := by omega
          go_wp2
          go_meet
          exact ⟨congrArg Value.bool (decide_eq_false (p := (L : Int) ≤ t ∧ t ≤ 63) (by omega)).symm, rfl⟩
      case rest =>
        obtain ⟨rfl, hwc⟩ := hcut
        have hwc := hwc.symm
        subst hwc
        go_upto_if 68 with fail
        go_cut [12] (fun v wx => v = .int .i64 j ∧ wx = wr)
        case first =>
          by_cases c1 : (L : Int) ≤ t
          · by_cases c2 : t ≤ 63
            · have hj2 := Lib.hid (HJ1.out c1 c2)
              have ht0 : 0 ≤ t := by omega
              have hw : IntKind.i64.wrap (t + 1) = t + 1 := IntWalk.i64_in _ (by omega)
              go_wp2
              go_meet
              exact ⟨congrArg (Value.int .i64) hj2.out.symm, rfl⟩
            · have hj2 := Lib.hid (HJ2.out (by omega))
              have c2' : 63 < t := by omega
              go_wp2
              go_meet
              exact ⟨by rw [hj2.out], rfl⟩
          · have hj2 := Lib.hid (HJ2.out (by omega))
            have c1' : t < L := by omega
            go_wp2
            go_meet
            exact ⟨by rw [hj2.out], rfl⟩
        case rest =>
          obtain ⟨rfl, hwc⟩ := hcut
          have hwc := hwc.symm
          subst hwc
          obtain ⟨la, a0, a1, a2, a3, a4, a5, a6, a7, a8⟩ := blok9 (HX4.out.grew HG5.out)
          go_upto_region 20 with (first | (go_at_call 29; (with_reducible refine (HCo.out HNo.out _ (HG4.out.trans HG5.out)).mono ?_); rintro e w6 ⟨C, kc, rfl, hg6, hc⟩; have HG6 := Lib.hid (HG5.out.trans hg6); have HC := Lib.hid hc; clear hg6 hc))
          clear la a0 a1 a2 a3 a4 a5 a6 a7 a8 HCo HJ1 HJ2
          have HCR : Hid (ExsR (PRow w6) C x.cols) := Lib.hid (by
            obtain ⟨css, q1, q2⟩ := HC.out
            exact ⟨css, q1.map fun _ _ h => h.grew (HG4.out.trans HG6.out), q2⟩)
          clear HC HG5
          obtain ⟨cl, hcl⟩ : ∃ cl, x.cols = cl := ⟨_, rfl⟩
          have HCL := Lib.hid hcl
          have hcl200 : cl.length ≤ 200 := by rw [← hcl]; exact Nat.le_trans (cols_len x) HNo.out
          rw [hcl] at HCR ⊢
          clear hcl
          go_wp2
          go_loopw [14] (fun i wr => HangAt w6 env b cl i wr) (fun i _ => cl.length - (intOf i).toNat)
          case atStart => exact ⟨0, Nat.zero_le _, rfl, by (show Grew _ _; repeat (first | exact Grew.refl _ | refine Grew.alloc ?_ _ | refine Grew.drew ?_ | refine Grew.more ?_ _)), by simp⟩
          case round =>
            obtain ⟨q, hq, rfl, hg, hp⟩ := hrel
            have HG7 := Lib.hid hg
            have HP := Lib.hid hp
            clear hg hp
            by_cases h : q < cl.length
            · obtain ⟨cb, co, CB, ck, rfl, hpa, h9⟩ := exsR_nine HCR.out h
              obtain ⟨p0, y0, y1, y2, y3, y4, y5, y6, y7, y8⟩ := h9.grew HG7.out
              have HA1 : Hid (∀ W, Grew w W → Gives Try.prog 22 #[.slice E L ke, .int .i64 cl[q].t, .int .i64 cl[q].c] W (vlV (atE env cl[q].t cl[q].c))) := Lib.hid fun W hW => by
                have := rat_any env HE.out E ke cl[q].t cl[q].c W (RB.out.grew hW)
                rw [HL.out] at this
                exact this
              have HA2 : Hid (∀ W, Grew w4 W → Gives Try.prog 22 #[.slice B j kb, .int .i64 cl[q].t, .int .i64 cl[q].c] W (vlV (atE b cl[q].t cl[q].c))) := Lib.hid fun W hW => by
                have := rat_any b HBO.out B kb cl[q].t cl[q].c W (RBB.out.grew hW)
                rw [HNB.out] at this
                exact this
              have HNx := Lib.hid (fun hx => take_all (P := fun y : Ex => atE env y.t y.c = atE b y.t y.c) HP.out h hx)
              clear h9 hpa HP
              generalize cl[q] = y at *
              generalize atE env y.t y.c = va at *
              generalize atE b y.t y.c = vb at *
              have HG8 := Lib.hid (HG6.out.trans HG7.out)
              have HG9 := Lib.hid (HG4.out.trans HG8.out)
              by_cases hv : va = vb
              · subst hv
                have HNy := Lib.hid (HNx.out rfl)
                clear HNx
                obtain ⟨vk, vi, vs⟩ := va
                unfold vlV at HA1 HA2
                simp only at HA1 HA2
                have evk : (vk == vk) = true := by simp
                have evi : (vi == vi) = true := by simp
                have evs : (vs.toList == vs.toList) = true := beq_self_eq_true _
                go_upto_region 23 with fail
                refine wp_region_more (by kernel_rfl) (by kernel_rfl) ?_
                repeat (go_big_quiet_step ((first | (go_at_call_of 22 (Value.slice E L ke); with_reducible exact (HA1.out _ (HG9.out.more _)).within) | (go_at_call_of 22 (Value.slice B j kb); with_reducible exact (HA2.out _ (HG8.out.more _)).within))))
                refine wpQuiet_nil ?_
                rintro _ ⟨z, rfl⟩
                go_wp2
                exact ⟨⟨q + 1, by omega, by go_num, HG7.out.more _, HNy.out⟩, by simp only [intOf]; omega⟩
              · have hne := vl_differ hv
                clear hv HNx
                obtain ⟨vk, vi, vs⟩ := va
                obtain ⟨zk, zi, zs⟩ := vb
                unfold vlV at HA1 HA2
                simp only at HA1 HA2 hne
                have hcase : (vk == zk) = false ∨ ((vk == zk) = true ∧ (vi == zi) = false) ∨ ((vk == zk) = true ∧ (vi == zi) = true ∧ (vs.toList == zs.toList) = false) := by
                  cases h1 : (vk == zk)
                  · exact Or.inl rfl
                  · cases h2 : (vi == zi)
                    · exact Or.inr (Or.inl ⟨rfl, rfl⟩)
                    · rw [h1, h2] at hne
                      exact Or.inr (Or.inr ⟨rfl, rfl, by simpa using hne⟩)
                clear hne
                go_upto_region 23 with fail
                rcases hcase with e1 | ⟨e1, e2⟩ | ⟨e1, e2, e3⟩
                all_goals (
                  refine wp_region_more (by kernel_rfl) (by kernel_rfl) ?_
                  repeat (go_big_quiet_step ((first | (go_at_call_of 22 (Value.slice E L ke); with_reducible exact (HA1.out _ (HG9.out.more _)).within) | (go_at_call_of 22 (Value.slice B j kb); with_reducible exact (HA2.out _ (HG8.out.more _)).within))))
                  refine wpQuiet_nil ?_
                  rintro _ ⟨z, rfl⟩
                  go_wp2_with (first | (go_at_call 17; (with_reducible refine (live13_any _).grows.mono ?_); rintro e w7 ⟨rfl, hg7⟩; have HG10 := Lib.hid hg7; clear hg7))
                  go_ret
                  exact ⟨rfl, (HG9.out.more _).trans HG10.out⟩)
            · obtain rfl : q = cl.length := by omega
              have hall : ∀ y ∈ x.cols, atE env y.t y.c = atE b y.t y.c := by
                have hq := HP.out
                rw [List.take_length] at hq
                rw [HCL.out]
                exact hq
              have heV := evalV_same x hall
              have heT := evalT_same x hall
              have HG8 := Lib.hid (HG6.out.trans HG7.out)
              have HG9 := Lib.hid (HG4.out.trans HG8.out)
              obtain ⟨⟨⟨vk, vi, vs⟩, f⟩, hv⟩ : ∃ p, evalV env x = p := ⟨_, rfl⟩
              obtain ⟨tv, htv⟩ : ∃ p, evalT env x = p := ⟨_, rfl⟩
              have HVa : Hid (∀ W, Grew w W → Gives Try.prog 18 #[.agg #[.int .i64 x.op, .string x.tab, .string x.name, .int .i64 x.t, .int .i64 x.c, .int .i64 x.vk, .int .i64 x.vi, .string x.vs, .slice A x.l.length k], .slice E L ke] W (.tuple #[.agg #[.int .i64 vk, .int .i64 vi, .string vs], .int .i64 f])) := Lib.hid fun W hW => by
                have := HVb.out env HE.out E ke W hW (RB.out.grew hW)
                rw [hv, HL.out] at this
                exact this
              have HVc : Hid (∀ W, Grew w4 W → Gives Try.prog 18 #[.agg #[.int .i64 x.op, .string x.tab, .string x.name, .int .i64 x.t, .int .i64 x.c, .int .i64 x.vk, .int .i64 x.vi, .string x.vs, .slice A x.l.length k], .slice B j kb] W (.tuple #[.agg #[.int .i64 vk, .int .i64 vi, .string vs], .int .i64 f])) := Lib.hid fun W hW => by
                have := HVb.out b HBO.out B kb W (HG4.out.trans hW) (RBB.out.grew hW)
                rw [← heV, hv, HNB.out] at this
                exact this
              have HTa : Hid (∀ W, Grew w W → Gives Try.prog 25 #[.agg #[.int .i64 x.op, .string x.tab, .string x.name, .int .i64 x.t, .int .i64 x.c, .int .i64 x.vk, .int .i64 x.vi, .string x.vs, .slice A x.l.length k], .slice E L ke] W (.int .i64 tv)) := Lib.hid fun W hW => by
                have := HTb.out env HE.out E ke W hW (RB.out.grew hW)
                rw [htv, HL.out] at this
                exact this
              have HTc : Hid (∀ W, Grew w4 W → Gives Try.prog 25 #[.agg #[.int .i64 x.op, .string x.tab, .string x.name, .int .i64 x.t, .int .i64 x.c, .int .i64 x.vk, .int .i64 x.vi, .string x.vs, .slice A x.l.length k], .slice B j kb] W (.int .i64 tv)) := Lib.hid fun W hW => by
                have := HTb.out b HBO.out B kb W (HG4.out.trans hW) (RBB.out.grew hW)
                rw [← heT, htv, HNB.out] at this
                exact this
              have evk : (vk == vk) = true := by simp
              have evi : (vi == vi) = true := by simp
              have evs : (vs.toList == vs.toList) = true := beq_self_eq_true _
              have ef : (f == f) = true := by simp
              have etv : (tv == tv) = true := by simp
              have HX8 := Lib.hid (HX4.out.grew HG8.out)
              clear hall heV heT hv htv HVb HTb HP HG7 h HX4 RB RBB RA RR HCR HCL HNB HL HBO HE HX
              obtain ⟨la, a0, a1, a2, a3, a4, a5, a6, a7, a8⟩ := blok9 HX8.out
              obtain ⟨wo, hwo⟩ : ∃ wo : World, wo = wr := ⟨_, rfl⟩
              subst hwo
              go_upto_region 26 with (first | (go_at_call 18; (with_reducible refine (HVa.out _ HG9.out).grows.mono ?_); rintro e w10 ⟨rfl, hg10⟩; have HG10 := Lib.hid (HG8.out.trans hg10); have HX10 := Lib.hid (HX8.out.grew hg10); clear hg10))
              clear la a0 a1 a2 a3 a4 a5 a6 a7 a8 HX8 HVa HG9
              obtain ⟨W4, hW4⟩ : ∃ W4, W4 = w10.alloc (.cells #[.int .i64 vk, .int .i64 vi, .string vs] 23) := ⟨_, rfl⟩
              have HG11 : Hid (Grew w4 W4) := Lib.hid (by rw [hW4]; exact HG10.out.alloc _)
              have HX11 := Lib.hid (show Blok W4 _ _ _ by rw [hW4]; exact HX10.out.alloc _)
              have HB11 : Hid (Blok W4 w10.heap.size 23 #[.int .i64 vk, .int .i64 vi, .string vs]) := Lib.hid (by rw [hW4]; exact Blok.new _ _ _ _ rfl)
              rw [← hW4]
              clear hW4 HX10 HG10
              generalize w10.heap.size = g4 at *
              obtain ⟨la, a0, a1, a2, a3, a4, a5, a6, a7, a8⟩ := blok9 HX11.out
              go_upto_region 27 with (first | (go_at_call 18; (with_reducible refine (HVc.out _ HG11.out).grows.mono ?_); rintro e w12 ⟨rfl, hg12⟩; have HG12 := Lib.hid (HG11.out.trans hg12); have HX12 := Lib.hid (HX11.out.grew hg12); have HB12 := Lib.hid (HB11.out.grew hg12); clear hg12))
              clear la a0 a1 a2 a3 a4 a5 a6 a7 a8 HX11 HVc HG11 HB11
              obtain ⟨W5, hW5⟩ : ∃ W5, W5 = w12.alloc (.cells #[.int .i64 vk, .int .i64 vi, .string vs] 23) := ⟨_, rfl⟩
              have HG13 : Hid (Grew w4 W5) := Lib.hid (by rw [hW5]; exact HG12.out.alloc _)
              have HX13 := Lib.hid (show Blok W5 _ _ _ by rw [hW5]; exact HX12.out.alloc _)
              have HB13 := Lib.hid (show Blok W5 _ _ _ by rw [hW5]; exact HB12.out.alloc _)
              have HC13 : Hid (Blok W5 w12.heap.size 23 #[.int .i64 vk, .int .i64 vi, .string vs]) := Lib.hid (by rw [hW5]; exact Blok.new _ _ _ _ rfl)
              rw [← hW5]
              clear hW5 HX12 HG12 HB12
              generalize w12.heap.size = g5 at *
              obtain ⟨la, a0, a1, a2, a3, a4, a5, a6, a7, a8⟩ := blok9 HX13.out
              obtain ⟨p1, c0, c1, c2, _, _, _⟩ := val_in HB13.out
              obtain ⟨p2, d0, d1, d2, _, _, _⟩ := val_in HC13.out
              have HG14 := Lib.hid (HG4.out.trans HG13.out)
              clear HX13 HB13 HC13
              refine wp_region_more (by kernel_rfl) (by kernel_rfl) ?_
              repeat (go_big_quiet_step ((first | (go_at_call_of 25 (Value.slice E L ke); with_reducible exact (HTa.out _ (HG14.out.more _)).within) | (go_at_call_of 25 (Value.slice B j kb); with_reducible exact (HTc.out _ (HG13.out.more _)).within) | (go_at_call 17; with_reducible exact (live13_any _).within))))
              refine wpQuiet_nil ?_
              rintro _ ⟨z, rfl⟩
              go_wp2
              go_ret
              exact ⟨rfl, HG14.out.more _⟩
end Go.Proofs.Ytddambfniaiogaa

namespace Go.Proofs.Ytddambfniaiogaa.evalHangs
open Go.RowKit Go.ChangeShapes Go.WideShapes Go.ChangeAt Go.Joins

theorem reads : ∀ t ∈ Try.f5.params.toList, Try.prog.readableRec t = true ∧ t < Try.prog.types.size := by
  rw [Try.params5]
  intro t ht
  simp only [List.mem_cons, List.not_mem_nil, or_false] at ht
  rcases ht with rfl | rfl | rfl | rfl
  all_goals exact ⟨by kernel_rfl, of_decide_eq_true (by kernel_rfl)⟩

set_option maxRecDepth 100000 in
theorem lifted (os : Os) (started : os.Started) (H : Type) (enc : TypeId × Value → H) :
    ReturnsInHanded {} Try.checked os 5 .any (Rows.evalHangsSpec.pre6 enc Try.prog Try.f5 Rows.evalHangsRow.domain false) (Rows.evalHangsSpec.post enc Try.prog Try.f5 false true false false) := by
  refine returnsInHanded_of_change_sized (C := Try.checked) own started (by kernel_rfl) Try.func5
    (ChangeSpec.witness6 (enc := enc) (C := Try.checked) false ⟨#[], #[.agg #[.int .i64 0, .string ByteArray.empty, .string ByteArray.empty, .int .i64 0, .int .i64 0, .int .i64 0, .int .i64 0, .string ByteArray.empty, .slice none 0 0], .slice none 0 0, .int .i64 0, .slice none 0 0], []⟩ 8 (by kernel_rfl) (by kernel_rfl) (by kernel_rfl) (by kernel_rfl)) ?_
  intro W base args ds gs before hval0 hW hcnd hsz0 _
  have hval : ∀ (j : Nat) t v, Try.f5.params[j]? = some t → args[j]? = some v → Value.okWide Try.prog W .any base t v := hval0
  have hW' := hW
  obtain ⟨p, q, hA0, hV, hpq, hfz, hnd⟩ := hW
  have hA : DataW.TrodAll enc Try.prog W 0 (fun _ => true) true Try.f5.params.toList args.toList ds p := hA0
  rw [Try.params5] at hA hval
  obtain ⟨v0, vs0, d0, ds0, p0, q0, hargs, rfl, rfl, h0, r0⟩ := trodAll_cons hA
  obtain ⟨v1, vs1, d1, ds1, p1, q1, rfl, rfl, rfl, h1, r1⟩ := trodAll_cons r0
  obtain ⟨v2, vs2, d2, ds2, p2, q2, rfl, rfl, rfl, h2, r2⟩ := trodAll_cons r1
  obtain ⟨v3, vs3, d3, ds3, p3, q3, rfl, rfl, rfl, h3, r3⟩ := trodAll_cons r2
  obtain ⟨rfl, rfl, rfl⟩ := trodAll_nil r3
  obtain rfl : args = #[v0, v1, v2, v3] := by cases args; simp_all
  obtain ⟨rfl, rfl⟩ := trodVars_none hV
  have hz : (DataW.weightsEach Try.prog [26, 27, 3, 46] [d0, d1, d2, d3]).all (· ≤ reachBytes) = true := hsz0
  simp only [DataW.weightsEach, List.all_append, List.append_nil, Bool.and_eq_true] at hz
  obtain ⟨zz0, zz1, zz2, zz3⟩ := hz
  obtain ⟨ecs, e, rfl, ze, te, ke⟩ := rdw_arg Try.underlying26 rdw_ex (hval 0 26 v0 rfl rfl) h0 zz0
  obtain ⟨eA, ec, ee, re⟩ := te.parts
  obtain rfl : ecs = (exC e eA ec).toArray := Array.ext' (by simpa using ee)
  have o1 := rdw_arg_slice Try.underlying27 rdw_rows (hval 1 27 v1 rfl rfl) h1 zz1
  obtain ⟨env, ⟨envA, envc, eenv, cenv, renv⟩, kenv⟩ := o1
  obtain rfl := List.cons.inj eenv |>.1
  obtain ⟨t, rfl, rfl, rfl, wt⟩ := open_int Try.underlying3 (hval 2 3 v2 rfl rfl) h2
  have o3 := rdw_arg_slice Try.underlying46 rdw_row (hval 3 46 v3 rfl rfl) h3 zz3
  obtain ⟨r, ⟨rA, rc, er, cr, rr⟩, kr⟩ := o3
  obtain rfl := List.cons.inj er |>.1
  refine (evalHangs_walk e eA ec env envA envc t r rA rc W ke kenv kr cr re renv rr).mono fun e W' ⟨he, hg⟩ => ?_
  subst he
  exact ⟨_, rfl, law_post hW' rfl rfl Try.underlying4 rfl rfl rfl laid_out reads (Grew.below hg)⟩

theorem over : Rows.evalHangsRow.holds Try.pinned (OpenSpec.ofChange Rows.evalHangsSpec) :=
  OpenClaim.holds_of_wide 5 Try.f5 rfl rfl rfl rfl rfl rfl rfl ⟨rfl, rfl, rfl, rfl, rfl⟩ rfl rfl rfl rfl rfl (by kernel_rfl) Try.func5 (by kernel_rfl)
    (of_decide_eq_true (by kernel_rfl)) (by unfold Func.isWrapper; first | (rw [if_pos (by decide +kernel)]; kernel_rfl) | (rw [if_neg (by decide +kernel)]; exact ⟨rfl, rfl⟩))
    (fun os started H enc _ => lifted os started H enc)

theorem proved : Rows.EvalHangsSaid := over

end Go.Proofs.Ytddambfniaiogaa.evalHangs
