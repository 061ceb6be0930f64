/- Layer 16: a query's conditions, while they are put together. No condition. -/
import Derived.Test.YtoaciliojdaoaaaQNa
import Derived.Test.YtoaciliojdaoaaaNest
import Derived.WalkSpells
import Derived.Test.YtoaciliojdaoaaaTree9
import Derived.Lib.OwnBridge
import Derived.Test.YtoaciliojdaoaaaQNc
import Derived.Test.YtoaciliojdaoaaaTree12
import Derived.Test.YtoaciliojdaoaaaTree11
import Derived.Test.YtoaciliojdaoaaaHead

/- Numbers in a row of one's own: cloned, cut, sorted; what is said of one column. Condition: no more than a million numbers. -/
namespace Go.Proofs.Ytoaciliojdaoaaa
open Go.RowKit
attribute [local go_sem] more_cell more_frozen more_more more_setCell more_of_drew more_of_drewN lt_more le_more past_cell past_cell2 past_frozen past_frozen2 past_setCell past_setCell2 mid_cell mid_frozen mid_setCell
attribute [local go_sem ↓] Go.wp_at_zero Go.wp_at_succ
@[local go_sem] theorem eql_nilI (w : World) (a : Option Addr) (n c : Nat) : (binOp .eql 30 (.slice a n c) (.slice none 0 0)).run Try.prog w = .ok (.bool a.isNone) w := Lib.run_eql_slice_nil w _ _ a n c 0 0 Try.underlying30

/-- Numbers that come back in a row of one's own, which may be written. -/
def OwnI (w : World) (l : List Int) (e : Ending) (w' : World) : Prop := ∃ A k, e = .returned (.slice A l.length k) ∧ Grew w w' ∧ w'.ownsRow w.heap.size 3 1 (.slice A l.length k) l.length (iV l)
theorem iV_len (l : List Int) : (iV l).length = l.length := by simp [iV]
theorem clone_ints (l : List Int) (hl : l.length ≤ 1000000) (A : Option Addr) (k : Nat) (w : World) (ra : Row w A (iV l)) : Calls Try.prog 37 #[.slice A l.length k] w (OwnI w l) := by
  have HR := Lib.hid ra
  clear ra
  rcases A with _ | a
  · have hxs : l = [] := by
      rcases HR.out with h | ⟨b, o, h, _⟩
      · simpa [iV] using h
      · cases h
    subst hxs
    go_enter Try.func37, Try.ntmps37
    go_wp2
    go_ret
    exact ⟨none, 0, rfl, Grew.refl w, own_none _ _ _ _⟩
  · have HL := Lib.hid (iV_len l)
    have H1 := Lib.hid (iV_one l)
    go_enter Try.func37, Try.ntmps37
    go_wp2_with (at_builtin; refine wpList_app rfl _ _ 30 3 rfl w (.int .i64 0) 8 Try.underlying30 infoI rfl (by decide) _ 0 [] rfl (own_empty w _ _ _ _ rfl (Nat.le_refl _)) _ l.length k (iV l) rfl HL.out (row_alloc HR.out _) H1.out (by omega) ((Grew.refl w).alloc _) ?_; intro A' c' w' ho' _ hg' _ _; have HO := Lib.hid ho'; have HG := Lib.hid hg'; clear ho' hg')
    go_ret
    refine ⟨A', c', by first | rfl | rw [Nat.zero_add], HG.out, ?_⟩
    have h := HO.out
    rw [List.nil_append, Nat.zero_add] at h
    exact h
theorem own_cut {w : World} {base n c : Nat} {e : TypeId} {A : Option Addr} {xs : List Value} (h : w.ownsRow base e 1 (.slice A n c) n xs) {k : Nat} (hk : k ≤ n) : w.ownsRow base e 1 (.slice A k c) k (xs.take k) := by
  have hl := h.1
  refine ⟨by rw [List.length_take, hl]; omega, ?_⟩
  rcases h.2 with ⟨h1, h2⟩ | ⟨g, cap, cur, h1, h2, h3, h4, h5, h6, h7⟩
  · injection h1 with h1 h1' h1''
    subst h1 h1''
    obtain rfl : k = 0 := by omega
    exact Or.inl ⟨rfl, rfl⟩
  · injection h1 with h1 _ h1''
    subst h1 h1''
    refine Or.inr ⟨g, c, cur, rfl, h2, h3, by omega, h5, h6, ?_⟩
    rw [← h7, List.take_take]
    congr 1
    omega
/-- Numbers of one's own are sorted where they lie. -/
theorem sort_own (l : List Int) (hz : l.length ≤ 1000000) (A : Option Addr) (c base : Nat) (w : World) (ho : w.ownsRow base 3 1 (.slice A l.length c) l.length (iV l)) :
    Calls Try.prog 68 #[.slice A l.length c] w fun e w' => e = .returned (.tuple #[]) ∧ w'.ownsRow base 3 1 (.slice A l.length c) l.length (iV (sortI l)) ∧ w.grownBy w' (Value.slice A l.length c).ownBlock := by
  have hl : (sortI l).length = l.length := sortI_len l
  by_cases h0 : l.length = 0
  · have h00 : l = [] := List.eq_nil_of_length_eq_zero h0
    subst h00
    refine (Try.slices_Sort_int_none A c w).mono ?_
    rintro e w' ⟨rfl, rfl⟩
    exact ⟨rfl, by rw [sortI_nil]; exact ho, World.grownBy.refl _ _⟩
  rcases ho.2 with ⟨h1, h2⟩ | ⟨g, cap, cur, h1, hbase, hgb, r1, r2, r3, r4⟩
  · omega
  · injection h1 with h1 _ h1''
    subst h1 h1''
    have hH : Go.Sort.Holds (Value.int .i64) w g 0 l.toArray := holds_of_blockI hgb (by simpa [iV] using r4)
    have hgl : g < w.heap.size := (Array.getElem?_eq_some_iff.1 hgb).1
    refine (Try.slices_Sort_int g 0 c l w hH hgl (by omega)).mono ?_
    rintro e w' ⟨rfl, n, os, rfl⟩
    exact ⟨rfl, ownsRow_sortedI (ts := sortI l) hl hbase hgb r1 r2 r3, grownBy_sortedI _⟩

def colI (l : List Cst) (c : Int) : Cst := if 0 ≤ c then l.getD c.toNat default else default
/-- What is said of a column, with marks of one's own. -/
def ColF (w : World) (x : Cst) (e : Ending) (w' : World) : Prop := ∃ B j, e = .returned (.agg #[.int .i64 x.u, .int .i64 x.n, .slice B x.m.length j]) ∧ Grew w w' ∧ w'.ownsRow w.heap.size 3 1 (.slice B x.m.length j) x.m.length (iV x.m)
end Go.Proofs.Ytoaciliojdaoaaa

/- Layer 16: the tables that an expression names. Condition: expressions that lie in memory that is there. -/
namespace Go.Proofs.Ytoaciliojdaoaaa
open Go.RowKit
attribute [local go_sem] more_cell more_frozen more_more more_setCell more_of_drew more_of_drewN lt_more le_more past_cell past_cell2 past_frozen past_frozen2 past_setCell past_setCell2 mid_cell mid_frozen mid_setCell
attribute [local go_sem ↓] Go.wp_at_zero Go.wp_at_succ

theorem compact_len (l : List Int) : (Lib.compact l).length ≤ l.length := by
  have h : ∀ (d : Array Int) m, (Lib.compactUpTo d m).length ≤ m := fun d m => by
    induction m with
    | zero => simp [Lib.compactUpTo]
    | succ m ih =>
      rw [Lib.compactUpTo_succ, List.length_append]
      split <;> simp <;> omega
  have := h l.toArray l.length
  unfold Lib.compact
  exact this
/-- Numbers of one's own, without what comes twice in a row. -/
theorem compact_own (l : List Int) (hz : l.length ≤ 1000000) (A : Option Addr) (c base : Nat) (w : World) (ho : w.ownsRow base 3 1 (.slice A l.length c) l.length (iV l)) :
    Calls Try.prog 69 #[.slice A l.length c] w fun e w' => e = .returned (.slice A (Lib.compact l).length c) ∧ w'.ownsRow base 3 1 (.slice A (Lib.compact l).length c) (Lib.compact l).length (iV (Lib.compact l)) ∧ w.grownBy w' (Value.slice A l.length c).ownBlock := by
  by_cases h0 : l.length = 0
  · have h00 : l = [] := List.eq_nil_of_length_eq_zero h0
    subst h00
    refine (Try.slices_Compact_int_empty A c w).mono ?_
    rintro e w' ⟨rfl, rfl⟩
    exact ⟨rfl, ho, World.grownBy.refl _ _⟩
  rcases ho.2 with ⟨h1, h2⟩ | ⟨g, cap, cur, h1, hbase, hgb, r1, r2, r3, r4⟩
  · omega
  · injection h1 with h1 _ h1''
    subst h1 h1''
    have hH : Go.Sort.Holds (Value.int .i64) w g 0 l.toArray := holds_of_blockI hgb (by simpa [iV] using r4)
    have hk := compact_len l
    refine (Try.slices_Compact_int g 0 c l w hH (by omega) (by omega)).mono ?_
    rintro e w' ⟨rfl, q, rfl⟩
    refine ⟨rfl, ?_, ?_⟩
    · have := Lib.ownsRow_putRow (q := q) (k := (Lib.compact l).length) (ys := Lib.compact l ++ List.replicate (l.length - (Lib.compact l).length) 0) ho (by rw [List.length_append, List.length_replicate]; omega) hk
      rw [List.take_left] at this
      exact this
    · have := grownBy_sortedI (w := w) (g := g) (n := q) (os := #[]) (Lib.compact l ++ List.replicate (l.length - (Lib.compact l).length) 0).toArray
      rw [Sort.grow_empty] at this
      exact this
/-- The tables it names, rising, each once. -/
def useX (x : Ex) : List Int := setI (x.cols.map Ex.t)
theorem useX_len (x : Ex) : (useX x).length ≤ x.nodes := by
  have h1 := setI_len (x.cols.map Ex.t)
  have h2 := cols_len x
  rw [List.length_map] at h1
  unfold useX
  omega
def UseAt (u : World) (l : List Ex) (v i : Value) (wr : World) : Prop :=
  ∃ (j n : Nat) (B : Option Addr) (k : Nat), j ≤ l.length ∧ n = j ∧ i = .int .i64 j ∧ v = .slice B n k ∧ wr.ownsRow u.heap.size 3 1 (.slice B n k) n (iV ((l.take j).map Ex.t)) ∧ Grew u wr
set_option maxHeartbeats 4000000 in
set_option maxRecDepth 100000 in
theorem uses_any (x : Ex) (A : Option Addr) (k : Nat) (hx : x.nodes ≤ 1000000) (w : World) (ra : ExsR (PRow w) A x.l) :
    Calls Try.prog 64 #[exV x A k] w (OwnI w (useX x)) := by
  have HC : Hid (∀ W, Grew w W → Calls Try.prog 85 #[exV x A k] W (ExsF W x.cols)) := Lib.hid fun W hW => cols_ex x A k hx W (ra.grew hW)
  have hcl := cols_len x
  have HU : Hid (useX x = Lib.compact (sortI (x.cols.map Ex.t))) := Lib.hid (compact_sort _).symm
  clear ra
  generalize useX x = r at *
  generalize x.cols = l at *
  unfold exV at *
  go_enter Try.func64, Try.ntmps64
  go_upto_region 3 with (go_at_call 85; (with_reducible refine (HC.out _ ((Grew.refl w).alloc _)).mono ?_); rintro e w2 ⟨A2, k2, rfl, hg2, hx2⟩; have HG2 : Hid (Grew w w2) := Lib.hid (((Grew.refl w).alloc _).trans hg2); have HX := Lib.hid hx2; clear hg2 hx2)
  have HCl : Hid (l.length ≤ 1000000) := Lib.hid (by omega)
  clear HC hcl hx
  go_loopw [3, 9] (fun v i wr => UseAt w2 l v i wr) (fun _ i _ => l.length - (intOf i).toNat)
  case atStart => exact ⟨0, 0, none, 0, Nat.zero_le _, rfl, rfl, rfl, own_none _ _ _ _, Grew.refl _⟩
  case round =>
    obtain ⟨j, n, B, k3, hj, rfl, rfl, rfl, ho, hg⟩ := hrel
    have HG := Lib.hid hg
    have HO := Lib.hid ho
    clear ho hg
    have hll := HCl.out
    by_cases h : n < l.length
    · have HX3 : Hid (ExsR (PRow wr) A2 l) := Lib.hid (HX.out.grew HG.out)
      obtain ⟨ba, oa, PA, ka, rfl, hpa, h9⟩ := exsR_nine HX3.out h
      have HN : Hid (iV ((l.take n).map Ex.t) ++ [.int .i64 l[n].t] = iV ((l.take (n + 1)).map Ex.t)) := Lib.hid (by rw [List.take_succ_eq_append_getElem h, List.map_append, iV_snoc]; rfl)
      obtain ⟨p0, a0, a1, a2, a3, a4, a5, a6, a7, a8⟩ := h9
      clear hpa HX3
      generalize l[n] = y at *
      obtain ⟨op, tab, name, tt, cc, vk, vi, vs, ll⟩ := y
      simp only [Ex.op, Ex.tab, Ex.name, Ex.t, Ex.c, Ex.vk, Ex.vi, Ex.vs, Ex.l] at a0 a1 a2 a3 a4 a5 a6 a7 a8 HN
      go_wp2_with (at_builtin; refine wpList_app rfl (.tmp 13) (.tmp 16) 30 3 rfl w2 (.int .i64 0) 8 Try.underlying30 infoI rfl (by decide) _ n _ rfl (own_alloc (own_alloc HO.out _) _) _ 1 1 [.int .i64 tt] rfl rfl (row_one _ _ _ _ (by simp)) (by simp [Value.oneCell']) (by omega) ((HG.out.alloc _).alloc _) ?_; intro A3 c3 w3 ho3 _ hg3 _ _; rw [HN.out] at ho3; have HO3 := Lib.hid ho3; have HG3 := Lib.hid hg3; clear ho3 hg3)
      exact ⟨⟨n + 1, n + 1, A3, c3, by omega, rfl, by go_num, rfl, HO3.out, HG3.out⟩, by simp only [intOf]; omega⟩
    · obtain rfl : n = l.length := by omega
      rw [List.take_length] at HO
      have hlm : l.length = (l.map Ex.t).length := by simp
      have HCS : Hid (∀ A c W, W.ownsRow w2.heap.size 3 1 (.slice A l.length c) l.length (iV (l.map Ex.t)) → Calls Try.prog 68 #[.slice A l.length c] W fun e w' => e = .returned (.tuple #[]) ∧ w'.ownsRow w2.heap.size 3 1 (.slice A l.length c) l.length (iV (sortI (l.map Ex.t))) ∧ W.grownBy w' (Value.slice A l.length c).ownBlock) := Lib.hid fun A c W hW => by
        rw [hlm] at hW ⊢
        exact sort_own _ (by rw [← hlm]; exact hll) A c _ W hW
      have HCC : Hid (∀ A c W, W.ownsRow w2.heap.size 3 1 (.slice A l.length c) l.length (iV (sortI (l.map Ex.t))) → Calls Try.prog 69 #[.slice A l.length c] W fun e w' => e = .returned (.slice A r.length c) ∧ w'.ownsRow w2.heap.size 3 1 (.slice A r.length c) r.length (iV r) ∧ W.grownBy w' (Value.slice A l.length c).ownBlock) := Lib.hid fun A c W hW => by
        have hls : l.length = (sortI (l.map Ex.t)).length := by rw [sortI_len, List.length_map]
        rw [HU.out]
        rw [hls] at hW ⊢
        exact compact_own _ (by rw [← hls]; exact hll) A c _ W hW
      clear HU hlm
      go_wp2_with (first | (go_at_call 68; refine (HCS.out _ _ _ HO.out).mono ?_; rintro e w3 ⟨rfl, ho3, hg3⟩; have HG3 : Hid (Grew w2 w3) := Lib.hid (HG.out.grown hg3 (own_base HO.out)); have HO3 := Lib.hid ho3; clear ho3 hg3) | (go_at_call 69; refine (HCC.out _ _ _ HO3.out).mono ?_; rintro e w4 ⟨rfl, ho4, hg4⟩; have HG4 : Hid (Grew w2 w4) := Lib.hid (HG3.out.grown hg4 (own_base HO3.out)); have HO4 := Lib.hid ho4; clear ho4 hg4))
      go_ret
      exact ⟨B, k3, rfl, HG2.out.trans HG4.out, own_le HO4.out HG2.out.size⟩
end Go.Proofs.Ytoaciliojdaoaaa

/- Layer 16: a column's number, and an expression that names a column. No condition. -/
namespace Go.Proofs.Ytoaciliojdaoaaa
open Go.RowKit
attribute [local go_sem] more_cell more_frozen more_more more_setCell more_of_drew more_of_drewN lt_more le_more past_cell past_cell2 past_frozen past_frozen2 past_setCell past_setCell2 mid_cell mid_frozen mid_setCell
attribute [local go_sem ↓] Go.wp_at_zero Go.wp_at_succ

def columnI (t c : Int) : Int := if 0 ≤ t ∧ t < 8 ∧ 0 ≤ c ∧ c < 16 then t * 16 + c else -1
theorem columnI_in {t c : Int} (h1 : 0 ≤ t) (h2 : t < 8) (h3 : 0 ≤ c) (h4 : c < 16) : columnI t c = t * 16 + c := if_pos ⟨h1, h2, h3, h4⟩
theorem columnI_out {t c : Int} (h : ¬ (0 ≤ t ∧ t < 8 ∧ 0 ≤ c ∧ c < 16)) : columnI t c = -1 := if_neg h
theorem column_cases (t c : Int) : (t < 0) ∨ (0 ≤ t ∧ 8 ≤ t) ∨ (0 ≤ t ∧ t < 8 ∧ c < 0) ∨ (0 ≤ t ∧ t < 8 ∧ 0 ≤ c ∧ 16 ≤ c) ∨ (0 ≤ t ∧ t < 8 ∧ 0 ≤ c ∧ c < 16) := by omega
theorem column_any (t c : Int) (w : World) : Gives Try.prog 75 #[.int .i64 t, .int .i64 c] w (.int .i64 (columnI t c)) := by
  unfold Gives
  rcases column_cases t c with h | ⟨h1, h2⟩ | ⟨h1, h2, h3⟩ | ⟨h1, h2, h3, h4⟩ | ⟨h1, h2, h3, h4⟩
  · rw [columnI_out (by omega)]
    go_enter Try.func75, Try.ntmps75
    go_wp2
    go_ret
    exact ⟨rfl, by (show Grew _ _; repeat (first | exact Grew.refl _ | refine Grew.alloc ?_ _ | refine Grew.drew ?_ | refine Grew.more ?_ _))⟩
  · rw [columnI_out (by omega)]
    go_enter Try.func75, Try.ntmps75
    go_wp2
    go_ret
    exact ⟨rfl, by (show Grew _ _; repeat (first | exact Grew.refl _ | refine Grew.alloc ?_ _ | refine Grew.drew ?_ | refine Grew.more ?_ _))⟩
  · rw [columnI_out (by omega)]
    go_enter Try.func75, Try.ntmps75
    go_wp2
    go_ret
    exact ⟨rfl, by (show Grew _ _; repeat (first | exact Grew.refl _ | refine Grew.alloc ?_ _ | refine Grew.drew ?_ | refine Grew.more ?_ _))⟩
  · rw [columnI_out (by omega)]
    go_enter Try.func75, Try.ntmps75
    go_wp2
    go_ret
    exact ⟨rfl, by (show Grew _ _; repeat (first | exact Grew.refl _ | refine Grew.alloc ?_ _ | refine Grew.drew ?_ | refine Grew.more ?_ _))⟩
  · rw [columnI_in h1 h2 h3 h4]
    have e1 : IntKind.i64.wrap (t * 16) = t * 16 := IntWalk.i64_in _ (by omega)
    have e2 : IntKind.i64.wrap (t * 16 + c) = t * 16 + c := IntWalk.i64_in _ (by omega)
    go_enter Try.func75, Try.ntmps75
    go_wp2
    go_ret
    exact ⟨rfl, by (show Grew _ _; repeat (first | exact Grew.refl _ | refine Grew.alloc ?_ _ | refine Grew.drew ?_ | refine Grew.more ?_ _))⟩
theorem rcolumn_any (t c : Int) (w : World) : Gives Try.prog 82 #[.int .i64 t, .int .i64 c] w (.int .i64 (columnI t c)) := by
  unfold Gives
  rcases column_cases t c with h | ⟨h1, h2⟩ | ⟨h1, h2, h3⟩ | ⟨h1, h2, h3, h4⟩ | ⟨h1, h2, h3, h4⟩
  · rw [columnI_out (by omega)]
    go_enter Try.func82, Try.ntmps82
    go_wp2
    go_ret
    exact ⟨rfl, by (show Grew _ _; repeat (first | exact Grew.refl _ | refine Grew.alloc ?_ _ | refine Grew.drew ?_ | refine Grew.more ?_ _))⟩
  · rw [columnI_out (by omega)]
    go_enter Try.func82, Try.ntmps82
    go_wp2
    go_ret
    exact ⟨rfl, by (show Grew _ _; repeat (first | exact Grew.refl _ | refine Grew.alloc ?_ _ | refine Grew.drew ?_ | refine Grew.more ?_ _))⟩
  · rw [columnI_out (by omega)]
    go_enter Try.func82, Try.ntmps82
    go_wp2
    go_ret
    exact ⟨rfl, by (show Grew _ _; repeat (first | exact Grew.refl _ | refine Grew.alloc ?_ _ | refine Grew.drew ?_ | refine Grew.more ?_ _))⟩
  · rw [columnI_out (by omega)]
    go_enter Try.func82, Try.ntmps82
    go_wp2
    go_ret
    exact ⟨rfl, by (show Grew _ _; repeat (first | exact Grew.refl _ | refine Grew.alloc ?_ _ | refine Grew.drew ?_ | refine Grew.more ?_ _))⟩
  · rw [columnI_in h1 h2 h3 h4]
    have e1 : IntKind.i64.wrap (16 * t) = 16 * t := IntWalk.i64_in _ (by omega)
    have e2 : IntKind.i64.wrap (16 * t + c) = 16 * t + c := IntWalk.i64_in _ (by omega)
    go_enter Try.func82, Try.ntmps82
    go_wp2
    go_ret
    exact ⟨congrArg Ending.returned (congrArg (Value.int .i64) (by omega)), by (show Grew _ _; repeat (first | exact Grew.refl _ | refine Grew.alloc ?_ _ | refine Grew.drew ?_ | refine Grew.more ?_ _))⟩
end Go.Proofs.Ytoaciliojdaoaaa

/- Layer 16: edges, one by one the same. Condition: edges that lie in memory that is there. -/
namespace Go.Proofs.Ytoaciliojdaoaaa
open Go.RowKit
attribute [local go_sem] more_cell more_frozen more_more more_setCell more_of_drew more_of_drewN lt_more le_more past_cell past_cell2 past_frozen past_frozen2 past_setCell past_setCell2 mid_cell mid_frozen mid_setCell
attribute [local go_sem ↓] Go.wp_at_zero Go.wp_at_succ

instance ed_some : Inhabited Ed := ⟨⟨0, 0, 0, 0⟩⟩
def EdR (x : Ed) (cs : List Value) : Prop := cs = [.int .i64 x.a, .int .i64 x.ac, .int .i64 x.b, .int .i64 x.bc]
def EdsR (R : Rw) (A : Option Addr) (l : List Ed) : Prop := ∃ css, ListR EdR 4 l css ∧ R 68 A css.flatten
theorem EdsR.grew {w w' : World} {A : Option Addr} {l : List Ed} (h : EdsR (PRow w) A l) (g : Grew w w') : EdsR (PRow w') A l := by
  obtain ⟨css, h1, h2⟩ := h
  exact ⟨css, h1, Row.grew h2 g⟩
theorem edsR_at {w : World} {A : Option Addr} {l : List Ed} (h : EdsR (PRow w) A l) {i : Nat} (hi : i < l.length) :
    ∃ b o, A = some ⟨b, o, none⟩ ∧ b < w.heap.size ∧ w.cell? ⟨b, o + i * 4, none⟩ = some (.int .i64 l[i].a) ∧ w.cell? ⟨b, o + i * 4 + 1, none⟩ = some (.int .i64 l[i].ac) ∧ w.cell? ⟨b, o + i * 4 + 2, none⟩ = some (.int .i64 l[i].b) ∧ w.cell? ⟨b, o + i * 4 + 3, none⟩ = some (.int .i64 l[i].bc) := by
  obtain ⟨css, h1, h2⟩ := h
  obtain ⟨b, o, cs, hA, hb, hr, _, hc⟩ := h1.at_ h2 (by decide) hi
  unfold EdR at hr
  subst hr
  exact ⟨b, o, hA, hb, hc 0 _ rfl, hc 1 _ rfl, hc 2 _ rfl, hc 3 _ rfl⟩
theorem ed_cases (x y : Ed) : x = y ∨ ((x.a == y.a) = false) ∨ (x.a = y.a ∧ (x.ac == y.ac) = false) ∨ (x.a = y.a ∧ x.ac = y.ac ∧ (x.b == y.b) = false) ∨ (x.a = y.a ∧ x.ac = y.ac ∧ x.b = y.b ∧ (x.bc == y.bc) = false) := by
  by_cases h1 : x.a = y.a
  · by_cases h2 : x.ac = y.ac
    · by_cases h3 : x.b = y.b
      · by_cases h4 : x.bc = y.bc
        · left; cases x; cases y; simp only at h1 h2 h3 h4; rw [h1, h2, h3, h4]
        · exact Or.inr (Or.inr (Or.inr (Or.inr ⟨h1, h2, h3, by simpa using h4⟩)))
      · exact Or.inr (Or.inr (Or.inr (Or.inl ⟨h1, h2, by simpa using h3⟩)))
    · exact Or.inr (Or.inr (Or.inl ⟨h1, by simpa using h2⟩))
  · exact Or.inr (Or.inl (by simpa using h1))
theorem ed_other {x y : Ed} (h : ((x.a == y.a) = false) ∨ (x.a = y.a ∧ (x.ac == y.ac) = false) ∨ (x.a = y.a ∧ x.ac = y.ac ∧ (x.b == y.b) = false) ∨ (x.a = y.a ∧ x.ac = y.ac ∧ x.b = y.b ∧ (x.bc == y.bc) = false)) : ¬ x = y := by
  rintro rfl
  simp at h
def EqEd (w : World) (l m : List Ed) (i : Value) (wr : World) : Prop := ∃ j : Nat, j ≤ l.length ∧ i = .int .i64 j ∧ Grew w wr ∧ l.take j = m.take j
end Go.Proofs.Ytoaciliojdaoaaa

/- Layer 16: a query's conditions, as they lie in memory. No condition. -/
namespace Go.Proofs.Ytoaciliojdaoaaa
open Go.RowKit

/-- A table behind the core; all conditions. -/
structure La where
  table : Int
  join : Int
  keys : List Ed
  scan : List Ex
  rest : List Ex
instance la_some : Inhabited La := ⟨⟨0, 0, [], [], []⟩⟩
structure Nm where
  core : Int
  scan : List (List Ex)
  edges : List Ed
  rest : List Ex
  late : List La
  wh : List Ex
def XlR (R : Rw) (x : List Ex) (cs : List Value) : Prop := ∃ A k, cs = [.slice A x.length k] ∧ ExsR R A x
def XllR (R : Rw) (A : Option Addr) (l : List (List Ex)) : Prop := ∃ css, ListR (XlR R) 1 l css ∧ R 22 A css.flatten
def LaR (R : Rw) (x : La) (cs : List Value) : Prop := ∃ A k B j C c, cs = [.int .i64 x.table, .int .i64 x.join, .slice A x.keys.length k, .slice B x.scan.length j, .slice C x.rest.length c] ∧ EdsR R A x.keys ∧ ExsR R B x.scan ∧ ExsR R C x.rest
def LasR (R : Rw) (A : Option Addr) (l : List La) : Prop := ∃ css, ListR (LaR R) 5 l css ∧ R 72 A css.flatten
/-- The cells of all conditions. -/
def nmC (x : Nm) (A : Option Addr) (k : Nat) (B : Option Addr) (j : Nat) (C : Option Addr) (c : Nat) (D : Option Addr) (d : Nat) (E : Option Addr) (e : Nat) : Array Value :=
  #[.int .i64 x.core, .slice A x.scan.length k, .slice B x.edges.length j, .slice C x.rest.length c, .slice D x.late.length d, .slice E x.wh.length e]
structure NmR (R : Rw) (x : Nm) (A B C D E : Option Addr) : Prop where
  scan : XllR R A x.scan
  edges : EdsR R B x.edges
  rest : ExsR R C x.rest
  late : LasR R D x.late
  wh : ExsR R E x.wh
section
variable {R R' : Rw} (H : ∀ e A xs, R e A xs → R' e A xs)
include H
theorem EdsR.imp {A : Option Addr} {l : List Ed} (h : EdsR R A l) : EdsR R' A l := by
  obtain ⟨css, h1, h2⟩ := h
  exact ⟨css, h1, H _ _ _ h2⟩
theorem XlR.imp {x : List Ex} {cs : List Value} (h : XlR R x cs) : XlR R' x cs := by
  obtain ⟨A, k, e, hx⟩ := h
  exact ⟨A, k, e, hx.map H⟩
theorem XllR.imp {A : Option Addr} {l : List (List Ex)} (h : XllR R A l) : XllR R' A l := by
  obtain ⟨css, h1, h2⟩ := h
  exact ⟨css, h1.map fun x cs hx => hx.imp H, H _ _ _ h2⟩
theorem LaR.imp {x : La} {cs : List Value} (h : LaR R x cs) : LaR R' x cs := by
  obtain ⟨A, k, B, j, C, c, e, h1, h2, h3⟩ := h
  exact ⟨A, k, B, j, C, c, e, h1.imp H, h2.map H, h3.map H⟩
theorem LasR.imp {A : Option Addr} {l : List La} (h : LasR R A l) : LasR R' A l := by
  obtain ⟨css, h1, h2⟩ := h
  exact ⟨css, h1.map fun x cs hx => hx.imp H, H _ _ _ h2⟩
theorem NmR.imp {x : Nm} {A B C D E : Option Addr} (h : NmR R x A B C D E) : NmR R' x A B C D E :=
  ⟨h.scan.imp H, h.edges.imp H, h.rest.map H, h.late.imp H, h.wh.map H⟩
end
theorem NmR.grew {w w' : World} {x : Nm} {A B C D E : Option Addr} (h : NmR (PRow w) x A B C D E) (g : Grew w w') : NmR (PRow w') x A B C D E := h.imp fun _ _ _ hx => Row.grew hx g
theorem XllR.grew {w w' : World} {A : Option Addr} {l : List (List Ex)} (h : XllR (PRow w) A l) (g : Grew w w') : XllR (PRow w') A l := h.imp fun _ _ _ hx => Row.grew hx g
theorem LasR.grew {w w' : World} {A : Option Addr} {l : List La} (h : LasR (PRow w) A l) (g : Grew w w') : LasR (PRow w') A l := h.imp fun _ _ _ hx => Row.grew hx g
theorem xllR_at {w : World} {A : Option Addr} {l : List (List Ex)} (h : XllR (PRow w) A l) {i : Nat} (hi : i < l.length) :
    ∃ b o B k, A = some ⟨b, o, none⟩ ∧ b < w.heap.size ∧ w.cell? ⟨b, o + i, none⟩ = some (.slice B l[i].length k) ∧ ExsR (PRow w) B l[i] := by
  obtain ⟨css, h1, h2⟩ := h
  obtain ⟨b, o, cs, hA, hb, hr, _, hc⟩ := h1.at_ h2 (by decide) hi
  obtain ⟨B, k, rfl, hx⟩ := hr
  have := hc 0 _ rfl
  rw [Nat.mul_one] at this
  exact ⟨b, o, B, k, hA, hb, this, hx⟩
theorem lasR_at {w : World} {A : Option Addr} {l : List La} (h : LasR (PRow w) A l) {i : Nat} (hi : i < l.length) :
    ∃ b o B k C j D d, A = some ⟨b, o, none⟩ ∧ b < w.heap.size ∧ w.cell? ⟨b, o + i * 5, none⟩ = some (.int .i64 l[i].table) ∧ w.cell? ⟨b, o + i * 5 + 1, none⟩ = some (.int .i64 l[i].join) ∧ w.cell? ⟨b, o + i * 5 + 2, none⟩ = some (.slice B l[i].keys.length k) ∧ w.cell? ⟨b, o + i * 5 + 3, none⟩ = some (.slice C l[i].scan.length j) ∧ w.cell? ⟨b, o + i * 5 + 4, none⟩ = some (.slice D l[i].rest.length d) ∧ EdsR (PRow w) B l[i].keys ∧ ExsR (PRow w) C l[i].scan ∧ ExsR (PRow w) D l[i].rest := by
  obtain ⟨css, h1, h2⟩ := h
  obtain ⟨b, o, cs, hA, hb, hr, _, hc⟩ := h1.at_ h2 (by decide) hi
  obtain ⟨B, k, C, j, D, d, rfl, q1, q2, q3⟩ := hr
  exact ⟨b, o, B, k, C, j, D, d, hA, hb, hc 0 _ rfl, hc 1 _ rfl, hc 2 _ rfl, hc 3 _ rfl, hc 4 _ rfl, q1, q2, q3⟩
end Go.Proofs.Ytoaciliojdaoaaa

/- Layer 16: conditions with the same contents are the same, by the document. Condition: conditions that lie in memory that is there. -/
namespace Go.Proofs.Ytoaciliojdaoaaa
open Go.RowKit
attribute [local go_sem] more_cell more_frozen more_more more_setCell more_of_drew more_of_drewN lt_more le_more past_cell past_cell2 past_frozen past_frozen2 past_setCell past_setCell2 mid_cell mid_frozen mid_setCell
attribute [local go_sem ↓] Go.wp_at_zero Go.wp_at_succ

/-- No more than a million, and none with more than a million parts. -/
def fewE (l : List Ex) : Prop := l.length ≤ 1000000 ∧ ∀ y ∈ l, y.nodes ≤ 1000000
structure fewN (x : Nm) : Prop where
  scanN : x.scan.length ≤ 1000000
  scan : ∀ l ∈ x.scan, fewE l
  edges : x.edges.length ≤ 1000000
  rest : fewE x.rest
  lateN : x.late.length ≤ 1000000
  late : ∀ y ∈ x.late, y.keys.length ≤ 1000000 ∧ fewE y.scan ∧ fewE y.rest
  wh : fewE x.wh
theorem nm_in {w : World} {g : Nat} {a0 a1 a2 a3 a4 a5 : Value} (h : Blok w g 37 #[a0, a1, a2, a3, a4, a5]) : g < w.heap.size ∧ w.cell? ⟨g, 0, none⟩ = some a0 ∧ w.cell? ⟨g, 1, none⟩ = some a1 ∧ w.cell? ⟨g, 2, none⟩ = some a2 ∧ w.cell? ⟨g, 3, none⟩ = some a3 ∧ w.cell? ⟨g, 4, none⟩ = some a4 ∧ w.cell? ⟨g, 5, none⟩ = some a5 :=
  ⟨h.lt, h.cell 0, h.cell 1, h.cell 2, h.cell 3, h.cell 4, h.cell 5⟩
theorem la_in {w : World} {g : Nat} {a0 a1 a2 a3 a4 : Value} (h : Blok w g 72 #[a0, a1, a2, a3, a4]) : g < w.heap.size ∧ w.cell? ⟨g, 0, none⟩ = some a0 ∧ w.cell? ⟨g, 1, none⟩ = some a1 ∧ w.cell? ⟨g, 2, none⟩ = some a2 ∧ w.cell? ⟨g, 3, none⟩ = some a3 ∧ w.cell? ⟨g, 4, none⟩ = some a4 :=
  ⟨h.lt, h.cell 0, h.cell 1, h.cell 2, h.cell 3, h.cell 4⟩
theorem cell_keep {w w' : World} (g : Grew w w') {b n : Nat} {v : Value} (hb : b < w.heap.size) (h : w.cell? ⟨b, n, none⟩ = some v) : w'.cell? ⟨b, n, none⟩ = some v := by
  obtain ⟨z, rfl⟩ := g
  rw [more_cell _ _ _ hb]
  exact h
def SmAt (u : World) (n : Nat) (i : Value) (wr : World) : Prop := ∃ q : Nat, q ≤ n ∧ i = .int .i64 q ∧ Grew u wr
end Go.Proofs.Ytoaciliojdaoaaa

/- Layer 16: the tables that an expression names, by the document. Condition: expressions that lie in memory that is there. -/
namespace Go.Proofs.Ytoaciliojdaoaaa
open Go.RowKit
attribute [local go_sem] more_cell more_frozen more_more more_setCell more_of_drew more_of_drewN lt_more le_more past_cell past_cell2 past_frozen past_frozen2 past_setCell past_setCell2 mid_cell mid_frozen mid_setCell
attribute [local go_sem ↓] Go.wp_at_zero Go.wp_at_succ

/-- Numbers that come back. -/
def SetF (u : World) (l : List Int) (e : Ending) (w' : World) : Prop := ∃ B k, e = .returned (.slice B l.length k) ∧ l.length ≤ k ∧ Grew u w' ∧ Row w' B (iV l)
theorem setI_old {l : List Int} {v : Int} (h : v ∈ setI l) : setI (l ++ [v]) = setI l := setI_congr fun x => by
  have := (setI_mem l v).1 h
  rw [List.mem_append, List.mem_singleton]
  constructor
  · rintro (h | rfl) <;> assumption
  · exact Or.inl
theorem setI_new {l : List Int} {v : Int} (q : Nat) (h1 : ∀ y ∈ (setI l).take q, y < v) (h2 : ∀ y ∈ (setI l).drop q, v < y) : (setI l).take q ++ [v] ++ (setI l).drop q = setI (l ++ [v]) := by
  refine setI_put (fun hv => ?_) q h1 (fun y hy => Int.le_of_lt (h2 y hy))
  have hv' := (setI_mem l v).2 hv
  rw [← List.take_append_drop q (setI l), List.mem_append] at hv'
  rcases hv' with h | h
  · have := h1 v h; omega
  · have := h2 v h; omega
def RUsAt (u : World) (l : List Ex) (v i : Value) (wr : World) : Prop :=
  ∃ (j n : Nat) (B : Option Addr) (k : Nat), j ≤ l.length ∧ n = (setI ((l.take j).map Ex.t)).length ∧ i = .int .i64 j ∧ v = .slice B n k ∧ n ≤ k ∧ Row wr B (iV (setI ((l.take j).map Ex.t))) ∧ Grew u wr
def InnAt (u : World) (s : List Int) (v : Int) (i : Value) (wr : World) : Prop := ∃ q : Nat, q ≤ s.length ∧ i = .int .i64 q ∧ Grew u wr ∧ ∀ y ∈ s.drop q, v < y
set_option maxHeartbeats 8000000 in
set_option maxRecDepth 100000 in
theorem ruses_any (x : Ex) (A : Option Addr) (k : Nat) (hx : x.nodes ≤ 100000) (w0 : World) (ra : ExsR (PRow w0) A x.l) :
    Calls Try.prog 26 #[exV x A k] w0 (SetF w0 (useX x)) := by
  have HC : Hid (∀ W, Grew w0 W → Calls Try.prog 50 #[exV x A k] W (ColsF w0 W x.cols)) := Lib.hid fun W hW => rcols_ex _ x (Nat.lt_succ_self _) A k w0 W hx hW ra
  have hcl := cols_len x
  have HU : Hid (useX x = setI (x.cols.map Ex.t)) := Lib.hid rfl
  clear ra
  generalize useX x = r at *
  generalize x.cols = l at *
  unfold exV at *
  go_enter Try.func26, Try.ntmps26
  go_upto_region 4 with (go_at_call 50; (with_reducible refine (HC.out _ ((Grew.refl w0).alloc _)).mono ?_); rintro e w ⟨A2, k2, rfl, hg2, hx2⟩; have HG0 : Hid (Grew w0 w) := Lib.hid (((Grew.refl w0).alloc _).trans hg2); have HX : Hid (ExsR (PRow w) A2 l) := Lib.hid (hx2.exs HG0.out); clear hg2 hx2)
  have HCl : Hid (l.length ≤ 1000000) := Lib.hid (by omega)
  clear HC hcl hx
  go_loopw [3, 5] (fun v i wr => RUsAt w l v i wr) (fun _ i _ => l.length - (intOf i).toNat)
  case atStart => exact ⟨0, 0, none, 0, Nat.zero_le _, by simp [setI], rfl, rfl, Nat.le_refl _, Or.inl (by simp [setI, iV]), Grew.refl _⟩
  case round =>
    obtain ⟨j, n, B, k3, hj, hn, rfl, rfl, hk3, hr, hg⟩ := hrel
    have HG := Lib.hid hg
    have RA := Lib.hid hr
    clear hr hg
    have hll := HCl.out
    by_cases h : j < l.length
    · obtain ⟨ba, oa, PA, ka, rfl, hpa, h9⟩ := exsR_nine (HX.out.grew HG.out) h
      have hlm := setI_len ((l.take j).map Ex.t)
      rw [List.length_map, List.length_take] at hlm
      have e1 : (l.take (j + 1)).map Ex.t = (l.take j).map Ex.t ++ [l[j].t] := by rw [List.take_succ_eq_append_getElem h, List.map_append]; rfl
      have HStay : Hid (l[j].t ∈ setI ((l.take j).map Ex.t) → ∀ W, Grew wr W → ∀ i, i = .int .i64 ((j + 1 : Nat) : Int) → RUsAt w l (.slice B n k3) i W) := Lib.hid fun hm W hW i hi =>
        ⟨j + 1, n, B, k3, by omega, by rw [e1, setI_old hm]; exact hn, hi, rfl, hk3, by rw [e1, setI_old hm]; exact RA.out.grew hW, HG.out.trans hW⟩
      have HNew : Hid (∀ q, q ≤ n → (∀ y ∈ (setI ((l.take j).map Ex.t)).take q, y < l[j].t) → (∀ y ∈ (setI ((l.take j).map Ex.t)).drop q, l[j].t < y) → ((setI ((l.take j).map Ex.t)).take q ++ [l[j].t] ++ (setI ((l.take j).map Ex.t)).drop q = setI ((l.take (j + 1)).map Ex.t)) ∧ ∀ W A3 c3, n + 1 ≤ c3 → Grew w W → Row W A3 (iV (setI ((l.take (j + 1)).map Ex.t))) → ∀ i, i = .int .i64 ((j + 1 : Nat) : Int) → RUsAt w l (.slice A3 (n + 1) c3) i W) := Lib.hid fun q hq h1 h2 => by
        have he := setI_new q h1 h2
        refine ⟨by rw [he, e1], fun W A3 c3 hc hW hR i hi => ⟨j + 1, n + 1, A3, c3, by omega, ?_, hi, rfl, hc, hR, hW⟩⟩
        rw [e1, ← he, List.length_append, List.length_append, List.length_take, List.length_drop, List.length_singleton]
        omega
      have HRis := Lib.hid (setI_rising ((l.take j).map Ex.t))
      obtain ⟨p0, a0, a1, a2, a3, a4, a5, a6, a7, a8⟩ := h9
      clear hpa e1 a0 a1 a2 a4 a5 a6 a7 a8
      have hn2 : n ≤ 1000000 := by omega
      clear hlm
      have HN := Lib.hid hn.symm
      clear hn
      generalize setI ((l.take j).map Ex.t) = s at *
      generalize l[j].t = v at *
      generalize hs1 : setI ((l.take (j + 1)).map Ex.t) = s1 at *
      clear hs1
      go_upto_region 7 with fail
      go_loopw [6] (fun i wr2 => InnAt wr s v i wr2) (fun i _ => (intOf i).toNat)
      case atStart => exact ⟨n, by rw [HN.out]; exact Nat.le_refl _, rfl, Grew.refl _, by rw [List.drop_of_length_le (Nat.le_of_eq HN.out)]; intro y hy; cases hy⟩
      case round =>
        obtain ⟨q, hq, rfl, hg2, h2⟩ := hrel
        rw [HN.out] at hq
        have HSt := Lib.hid (fun hm W hW => HStay.out hm W (hg2.trans hW))
        have RA := Lib.hid (RA.out.grew hg2)
        have HG := Lib.hid (HG.out.trans hg2)
        have a3 := cell_keep hg2 p0 a3
        have p0 := Nat.lt_of_lt_of_le p0 hg2.size
        have HD := Lib.hid h2
        have HG2 := Lib.hid hg2
        clear hg2 h2 HStay
        rcases Nat.eq_zero_or_pos q with e | e
        · subst e
          go_upto_region 7 with fail
          refine wp_region_more (by kernel_rfl) (by kernel_rfl) ?_
          repeat (go_big_quiet_step ((fail)))
          refine wpQuiet_nil ?_
          intro wq hq7
          have RA := Lib.hid (RA.out.grew hq7)
          have HG := Lib.hid (HG.out.trans hq7)
          replace a3 := cell_keep hq7 p0 a3
          replace p0 := Nat.lt_of_lt_of_le p0 (Grew.size hq7)
          go_upto_region 9 with fail
          refine wp_region_more (by kernel_rfl) (by kernel_rfl) ?_
          repeat (go_big_quiet_step ((fail)))
          refine wpQuiet_nil ?_
          intro wr hq9
          have RA := Lib.hid (RA.out.grew hq9)
          have HG := Lib.hid (HG.out.trans hq9)
          replace a3 := cell_keep hq9 p0 a3
          replace p0 := Nat.lt_of_lt_of_le p0 (Grew.size hq9)
          have HB0 := Lib.hid (HNew.out 0 hq (by intro y hy; cases hy) HD.out)
          have HS1 := Lib.hid HB0.out.1
          have HK := Lib.hid HB0.out.2
          have HQ : Hid (0 ≤ n ∧ n ≤ 1000000) := Lib.hid ⟨hq, hn2⟩
          clear HB0 HNew HD HSt HRis
          have hst : (iV (s.take 0)).length = 0 := by simp [iV]
          have hsd : (iV (s.drop 0)).length = n := by simp [iV, HN.out]
          have HRT : Hid (∀ W, Grew wr W → Row W B (iV (s.take 0))) := Lib.hid fun W hW => row_takeI (RA.out.grew hW) _
          have HRD : Hid (∀ W, Grew wr W → Row W B (iV (s.drop 0))) := Lib.hid fun W hW => by rw [List.drop_zero]; exact RA.out.grew hW
          clear HN RA
          generalize s.take 0 = st at *
          generalize s.drop 0 = sd at *
          go_wp2_with (at_builtin; first | (refine wpList_app rfl (.tmp 50) (.tmp 53) 30 3 rfl w (.int .i64 0) 8 Try.underlying30 infoI rfl (by decide) _ 0 [] rfl (own_empty _ _ _ _ _ rfl HG.out.size) _ _ _ (iV st) rfl hst (HRT.out _ ((Grew.refl wr).alloc _)) (iV_one _) (by have := HQ.out; omega) (HG.out.alloc _) ?_; intro A1 c1 w1 ho1 hr1 hg1 hgb1 hor1; rw [Nat.zero_add, List.nil_append] at ho1; rw [Nat.zero_add] at hor1; have HO1 := Lib.hid ho1; have HG1 := Lib.hid hg1; have HGQ1 : Hid (Grew wr w1) := Lib.hid (((Grew.refl wr).alloc _).grown hgb1 (by intro k hk; cases hk; exact Nat.le_refl _)); have HOW1 : Hid (∀ k, (Value.slice A1 (0) c1).ownBlock = some k → wr.heap.size ≤ k) := Lib.hid (by rintro k hk; rcases hor1 with h | h <;> (rw [h] at hk; cases hk; simp)); have a3 := cell_keep HGQ1.out p0 a3; have p0 := Nat.lt_of_lt_of_le p0 HGQ1.out.size; clear hor1 ho1 hr1 hg1 hgb1) | (refine wpList_app rfl (.tmp 55) (.tmp 61) 30 3 rfl w (.int .i64 0) 8 Try.underlying30 infoI rfl (by decide) _ _ _ rfl (own_alloc HO1.out _) _ 1 1 [.int .i64 v] rfl rfl (row_one _ _ _ _ rfl) (by simp [Value.oneCell']) (by have := HQ.out; omega) (HG1.out.alloc _) ?_; intro A2 c2 w2 ho2 hr2 hg2 hgb2 _; have HO2 := Lib.hid ho2; have HG2 := Lib.hid hg2; have HGQ2 : Hid (Grew wr w2) := Lib.hid ((HGQ1.out.alloc _).grown hgb2 (HOW1.out)); clear ho2 hr2 hg2 hgb2) | (refine wpList_app rfl (.tmp 63) (.tmp 66) 30 3 rfl w (.int .i64 0) 8 Try.underlying30 infoI rfl (by decide) _ _ _ rfl HO2.out _ _ _ (iV sd) rfl hsd (by first | exact HRD.out _ HGQ2.out | exact HRD2.out _ HGQ2.out | exact HRD1.out (by first | assumption | omega) _ HGQ2.out) (iV_one _) (by have := HQ.out; omega) HG2.out ?_; intro A3 c3 w3 ho3 hr3 hg3 _ _; rw [show 0 + 1 + n = n + 1 by have := HQ.out; omega] at ho3 ⊢; have HF := Lib.hid (HK.out w3 A3 c3 (own_cap ho3) hg3 (by rw [← HS1.out]; simpa [iV] using hr3)); clear ho3 hr3 hg3))
          all_goals exact ⟨HF.out _ (by go_num), by simp only [intOf]; omega⟩
        · obtain ⟨q, rfl⟩ : ∃ p, q = p + 1 := ⟨q - 1, by omega⟩
          have hqs : q < s.length := by rw [HN.out]; omega
          obtain ⟨b, o, rfl, hb, hc⟩ := rowI_at RA.out hqs
          have HT : Hid (∀ y ∈ s.take q, y ≤ s[q]) := Lib.hid fun y hy => by
            obtain ⟨i, hi, rfl⟩ := List.getElem_of_mem hy
            rw [List.length_take] at hi
            rw [List.getElem_take]
            exact sorted_le HRis.out.le (by omega) hqs
          by_cases hgo : v < s[q]
          · have HE : Hid (∀ y ∈ s.drop q, v < y) := Lib.hid fun y hy => by
              rw [List.drop_eq_getElem_cons hqs] at hy
              rcases List.mem_cons.1 hy with rfl | hy
              · exact hgo
              · exact HD.out y hy
            clear HD HT HNew HSt
            have hmm : s[q] ∈ s := List.getElem_mem hqs
            generalize s[q] = y at *
            go_upto_region 7 with fail
            refine wp_region_more (by kernel_rfl) (by kernel_rfl) ?_
            repeat (go_big_quiet_step ((fail)))
            refine wpQuiet_nil ?_
            intro wq hq7
            go_wp2
            exact ⟨⟨q, by have := HN.out; omega, by go_num, HG2.out.trans hq7, HE.out⟩, by simp only [intOf]; omega⟩
          · by_cases heq : s[q] = v
            · have HF := Lib.hid (HSt.out (heq ▸ List.getElem_mem hqs))
              clear HT HD HNew HSt hgo
              rw [heq] at hc
              clear heq
              go_upto_region 7 with fail
              refine wp_region_more (by kernel_rfl) (by kernel_rfl) ?_
              repeat (go_big_quiet_step ((fail)))
              refine wpQuiet_nil ?_
              intro wq hq7
              have RA := Lib.hid (RA.out.grew hq7)
              have HG := Lib.hid (HG.out.trans hq7)
              replace a3 := cell_keep hq7 p0 a3
              replace p0 := Nat.lt_of_lt_of_le p0 (Grew.size hq7)
              replace hc := cell_keep hq7 hb hc
              replace hb := Nat.lt_of_lt_of_le hb (Grew.size hq7)
              go_upto_region 9 with fail
              refine wp_region_more (by kernel_rfl) (by kernel_rfl) ?_
              repeat (go_big_quiet_step ((fail)))
              refine wpQuiet_nil ?_
              intro wr hq9
              go_wp2
              exact ⟨HF.out _ (Grew.trans hq7 hq9) _ (by go_num), by simp only [intOf]; omega⟩
            · have hlt : s[q] < v := by omega
              have HB1 := Lib.hid (HNew.out (q + 1) hq (fun y hy => by
                rw [List.take_succ_eq_append_getElem hqs] at hy
                rcases List.mem_append.1 hy with hy | hy
                · have := HT.out y hy; omega
                · rw [List.mem_singleton.1 hy]; exact hlt) HD.out)
              have HS1 := Lib.hid HB1.out.1
              have HK := Lib.hid HB1.out.2
              have HQ : Hid (q + 1 ≤ n ∧ n ≤ 1000000) := Lib.hid ⟨hq, hn2⟩
              clear HB1 HNew HD HSt HRis HT hgo
              generalize s[q] = y at *
              clear hqs
              go_upto_region 7 with fail
              refine wp_region_more (by kernel_rfl) (by kernel_rfl) ?_
              repeat (go_big_quiet_step ((fail)))
              refine wpQuiet_nil ?_
              intro wq hq7
              have RA := Lib.hid (RA.out.grew hq7)
              have HG := Lib.hid (HG.out.trans hq7)
              replace a3 := cell_keep hq7 p0 a3
              replace p0 := Nat.lt_of_lt_of_le p0 (Grew.size hq7)
              replace hc := cell_keep hq7 hb hc
              replace hb := Nat.lt_of_lt_of_le hb (Grew.size hq7)
              go_upto_region 9 with fail
              refine wp_region_more (by kernel_rfl) (by kernel_rfl) ?_
              repeat (go_big_quiet_step ((fail)))
              refine wpQuiet_nil ?_
              intro wr hq9
              have RA := Lib.hid (RA.out.grew hq9)
              have HG := Lib.hid (HG.out.trans hq9)
              replace a3 := cell_keep hq9 p0 a3
              replace p0 := Nat.lt_of_lt_of_le p0 (Grew.size hq9)
              replace hc := cell_keep hq9 hb hc
              replace hb := Nat.lt_of_lt_of_le hb (Grew.size hq9)
              have hst : (iV (s.take (q + 1))).length = (q + 1) := by have := HN.out; simp [iV]; omega
              have hsd : (iV (s.drop (q + 1))).length = n - (q + 1) := by simp [iV, HN.out]
              have HRT : Hid (∀ W, Grew wr W → Row W (some ⟨b, o, none⟩ : Option Addr) (iV (s.take (q + 1)))) := Lib.hid fun W hW => row_takeI (RA.out.grew hW) _
              have HRD : Hid (∀ W, Grew wr W → Row W (if k3 = q + 1 then some ⟨b, o, none⟩ else some ⟨b, o + (q + 1), none⟩) (iV (s.drop (q + 1)))) := Lib.hid fun W hW => by
                split
                · exact Or.inl (by rw [List.drop_of_length_le (by have := HN.out; omega)]; rfl)
                · exact row_dropI (RA.out.grew hW) _
              have HRD2 : Hid (∀ W, Grew wr W → Row W (some ⟨b, o + (q + 1), none⟩) (iV (s.drop (q + 1)))) := Lib.hid fun W hW => row_dropI (RA.out.grew hW) _
              have HRD1 : Hid (k3 = q + 1 → ∀ W, Grew wr W → Row W (some ⟨b, o, none⟩) (iV (s.drop (q + 1)))) := Lib.hid fun e W _ => Or.inl (by rw [List.drop_of_length_le (by have := HN.out; omega)]; rfl)
              clear HN RA
              generalize s.take (q + 1) = st at *
              generalize s.drop (q + 1) = sd at *
              go_wp2_with (at_builtin; first | (refine wpList_app rfl (.tmp 50) (.tmp 53) 30 3 rfl w (.int .i64 0) 8 Try.underlying30 infoI rfl (by decide) _ 0 [] rfl (own_empty _ _ _ _ _ rfl HG.out.size) _ _ _ (iV st) rfl hst (HRT.out _ ((Grew.refl wr).alloc _)) (iV_one _) (by have := HQ.out; omega) (HG.out.alloc _) ?_; intro A1 c1 w1 ho1 hr1 hg1 hgb1 hor1; rw [Nat.zero_add, List.nil_append] at ho1; rw [Nat.zero_add] at hor1; have HO1 := Lib.hid ho1; have HG1 := Lib.hid hg1; have HGQ1 : Hid (Grew wr w1) := Lib.hid (((Grew.refl wr).alloc _).grown hgb1 (by intro k hk; cases hk; exact Nat.le_refl _)); have HOW1 : Hid (∀ k, (Value.slice A1 (q + 1) c1).ownBlock = some k → wr.heap.size ≤ k) := Lib.hid (by rintro k hk; rcases hor1 with h | h <;> (rw [h] at hk; cases hk; simp)); have a3 := cell_keep HGQ1.out p0 a3; have p0 := Nat.lt_of_lt_of_le p0 HGQ1.out.size; clear hor1 ho1 hr1 hg1 hgb1) | (refine wpList_app rfl (.tmp 55) (.tmp 61) 30 3 rfl w (.int .i64 0) 8 Try.underlying30 infoI rfl (by decide) _ _ _ rfl (own_alloc HO1.out _) _ 1 1 [.int .i64 v] rfl rfl (row_one _ _ _ _ rfl) (by simp [Value.oneCell']) (by have := HQ.out; omega) (HG1.out.alloc _) ?_; intro A2 c2 w2 ho2 hr2 hg2 hgb2 _; have HO2 := Lib.hid ho2; have HG2 := Lib.hid hg2; have HGQ2 : Hid (Grew wr w2) := Lib.hid ((HGQ1.out.alloc _).grown hgb2 (HOW1.out)); clear ho2 hr2 hg2 hgb2) | (refine wpList_app rfl (.tmp 63) (.tmp 66) 30 3 rfl w (.int .i64 0) 8 Try.underlying30 infoI rfl (by decide) _ _ _ rfl HO2.out _ _ _ (iV sd) rfl hsd (by first | exact HRD.out _ HGQ2.out | exact HRD2.out _ HGQ2.out | exact HRD1.out (by first | assumption | omega) _ HGQ2.out) (iV_one _) (by have := HQ.out; omega) HG2.out ?_; intro A3 c3 w3 ho3 hr3 hg3 _ _; rw [show q + 1 + 1 + (n - (q + 1)) = n + 1 by have := HQ.out; omega] at ho3 ⊢; have HF := Lib.hid (HK.out w3 A3 c3 (own_cap ho3) hg3 (by rw [← HS1.out]; simpa [iV] using hr3)); clear ho3 hr3 hg3))
              all_goals exact ⟨HF.out _ (by go_num), by simp only [intOf]; omega⟩
    · obtain rfl : j = l.length := by omega
      rw [List.take_length] at RA hn
      rw [← HU.out] at RA hn
      clear HU
      subst hn
      go_wp2
      go_ret
      exact ⟨B, k3, rfl, hk3, HG0.out.trans HG.out, RA.out⟩
end Go.Proofs.Ytoaciliojdaoaaa

/- Layer 16: where a condition belongs, by the document. Condition: expressions that lie in memory that is there. -/
namespace Go.Proofs.Ytoaciliojdaoaaa
open Go.RowKit
attribute [local go_sem] more_cell more_frozen more_more more_setCell more_of_drew more_of_drewN lt_more le_more past_cell past_cell2 past_frozen past_frozen2 past_setCell past_setCell2 mid_cell mid_frozen mid_setCell
attribute [local go_sem ↓] Go.wp_at_zero Go.wp_at_succ

/-- Is one of them outside the core? -/
def outI (l : List Int) (core : Int) : Bool := l.any fun u => decide (u < 0 ∨ core ≤ u)
def whereI (x : Ex) (core : Int) : Int := if outI (useX x) core then 1 else if (useX x).length = 1 then 2 else if (edgeP x).2 then 3 else 0
theorem outI_take {l : List Int} {core : Int} {j : Nat} (h : j < l.length) (ht : outI (l.take j) core = false) (hx : ¬ (l[j] < 0 ∨ core ≤ l[j])) : outI (l.take (j + 1)) core = false := by
  unfold outI at *
  rw [List.take_succ_eq_append_getElem h, List.any_append, ht]
  simp only [List.any_cons, List.any_nil, Bool.or_false, Bool.false_or, decide_eq_false_iff_not]
  exact hx
theorem outI_in {l : List Int} {core : Int} {j : Nat} (h : j < l.length) (hx : l[j] < 0 ∨ core ≤ l[j]) : outI l core = true := by
  unfold outI
  rw [List.any_eq_true]
  exact ⟨l[j], List.getElem_mem h, decide_eq_true hx⟩
def WhAt (u : World) (l : List Int) (core : Int) (i : Value) (wr : World) : Prop := ∃ j : Nat, j ≤ l.length ∧ i = .int .i64 j ∧ Grew u wr ∧ outI (l.take j) core = false
set_option maxHeartbeats 4000000 in
set_option maxRecDepth 100000 in
theorem rwhere_any (x : Ex) (core : Int) (A : Option Addr) (k : Nat) (hx : x.nodes ≤ 100000) (w : World) (ra : ExsR (PRow w) A x.l) :
    Gives Try.prog 25 #[exV x A k, .int .i64 core] w (.int .i64 (whereI x core)) := by
  have HC : Hid (∀ W, Grew w W → Calls Try.prog 26 #[exV x A k] W (SetF W (useX x))) := Lib.hid fun W hW => ruses_any x A k hx W (ra.grew hW)
  have HE : Hid (∀ W, Grew w W → Gives Try.prog 27 #[exV x A k] W (.tuple #[edV (edgeP x).1, .bool (edgeP x).2])) := Lib.hid fun W hW => redge_any x A k W (ra.grew hW)
  have HL : Hid ((useX x).length ≤ 1000000) := Lib.hid (by have := useX_len x; omega)
  obtain ⟨r, hr⟩ : ∃ r, whereI x core = r := ⟨_, rfl⟩
  have HR := Lib.hid hr
  unfold whereI at HR
  rw [hr]
  clear hr ra hx
  generalize useX x = l at *
  generalize edgeP x = ed at *
  obtain ⟨⟨e1, e2, e3, e4⟩, is⟩ := ed
  unfold exV edV at *
  unfold Gives
  go_enter Try.func25, Try.ntmps25
  go_upto_region 3 with (go_at_call 26; (with_reducible refine (HC.out _ ((Grew.refl w).alloc _)).mono ?_); rintro e w2 ⟨B, k2, rfl, hk2, hg2, hr2⟩; have HG2 : Hid (Grew w w2) := Lib.hid (((Grew.refl w).alloc _).trans hg2); have HB : Hid (Blok w2 w.heap.size 27 #[.int .i64 x.op, .string x.tab, .string x.name, .int .i64 x.t, .int .i64 x.c, .int .i64 x.vk, .int .i64 x.vi, .string x.vs, .slice A x.l.length k]) := Lib.hid ((Blok.new _ _ _ _ rfl).grew hg2); have RB := Lib.hid hr2; clear hg2 hr2 hk2)
  generalize w.heap.size = b0 at *
  go_loopw [6] (fun i wr => WhAt w2 l core i wr) (fun i _ => l.length - (intOf i).toNat)
  case atStart => exact ⟨0, Nat.zero_le _, rfl, Grew.refl _, rfl⟩
  case round =>
    obtain ⟨j, hj, rfl, hg, hn⟩ := hrel
    have HG := Lib.hid hg
    have HN := Lib.hid hn
    clear hg hn
    have hll := HL.out
    by_cases h : j < l.length
    · obtain ⟨b, o, rfl, hb, hc⟩ := rowI_at (RB.out.grew HG.out) h
      have HT := Lib.hid (outI_take h HN.out)
      have HI := Lib.hid (outI_in (core := core) h)
      clear HN
      generalize l[j] = y at *
      by_cases hlt : y < 0
      · have hrr : r = 1 := by have := HR.out; rw [HI.out (Or.inl hlt), if_pos rfl] at this; exact this.symm
        subst hrr
        clear HT HI
        go_wp2
        go_ret
        exact ⟨rfl, HG2.out.trans HG.out⟩
      · by_cases hge : core ≤ y
        · have hrr : r = 1 := by have := HR.out; rw [HI.out (Or.inr hge), if_pos rfl] at this; exact this.symm
          subst hrr
          clear HT HI
          go_wp2
          go_ret
          exact ⟨rfl, HG2.out.trans HG.out⟩
        · have HT2 := Lib.hid (HT.out (by omega))
          clear HT HI
          go_wp2
          exact ⟨⟨j + 1, by omega, by go_num, HG.out, HT2.out⟩, by simp only [intOf]; omega⟩
    · obtain rfl : j = l.length := by omega
      rw [List.take_length] at HN
      have HR2 : Hid ((if l.length = 1 then 2 else if is then 3 else 0) = r) := Lib.hid (by have := HR.out; rw [HN.out, if_neg (by simp)] at this; exact this)
      obtain ⟨q0, s0, s1, s2, s3, s4, s5, s6, s7, s8⟩ := blok9 (HB.out.grew HG.out)
      clear HR HN
      by_cases h1 : l.length = 1
      · have hrr : r = 2 := by have := HR2.out; rw [if_pos h1] at this; exact this.symm
        subst hrr
        have e1 : ((l.length : Int) == 1) = true := by rw [h1]; rfl
        clear HR2
        generalize l.length = n at *
        go_wp2_with (go_at_call 27; (with_reducible refine (HE.out _ (HG2.out.trans HG.out)).grows.mono ?_); rintro e w3 ⟨rfl, hg3⟩; have HG3 : Hid (Grew w w3) := Lib.hid ((HG2.out.trans HG.out).trans hg3); clear hg3)
        go_ret
        exact ⟨rfl, HG3.out.alloc _⟩
      · have e1 : ((l.length : Int) == 1) = false := by rw [beq_eq_false_iff_ne]; omega
        cases is
        · have hrr : r = 0 := by have := HR2.out; rw [if_neg h1, if_neg (by simp)] at this; exact this.symm
          subst hrr
          clear HR2
          generalize l.length = n at *
          go_wp2_with (go_at_call 27; (with_reducible refine (HE.out _ (HG2.out.trans HG.out)).grows.mono ?_); rintro e w3 ⟨rfl, hg3⟩; have HG3 : Hid (Grew w w3) := Lib.hid ((HG2.out.trans HG.out).trans hg3); clear hg3)
          go_ret
          exact ⟨rfl, HG3.out.alloc _⟩
        · have hrr : r = 3 := by have := HR2.out; rw [if_neg h1, if_pos rfl] at this; exact this.symm
          subst hrr
          clear HR2
          generalize l.length = n at *
          go_wp2_with (go_at_call 27; (with_reducible refine (HE.out _ (HG2.out.trans HG.out)).grows.mono ?_); rintro e w3 ⟨rfl, hg3⟩; have HG3 : Hid (Grew w w3) := Lib.hid ((HG2.out.trans HG.out).trans hg3); clear hg3)
          go_ret
          exact ⟨rfl, HG3.out.alloc _⟩
end Go.Proofs.Ytoaciliojdaoaaa

/- Expressions in several rows of one's own, no two in one block: one is put longer. No condition. -/
namespace Go.Proofs.Ytoaciliojdaoaaa
open Go.RowKit

/-- A slice of expressions of one's own. -/
def ExSl (u w : World) (base : Nat) (v : Value) (l : List Ex) : Prop := ∃ A c, v = .slice A l.length c ∧ ExOwn u w base A c l
theorem ExSl.nil (u w : World) (base : Nat) : ExSl u w base (.slice none 0 0) [] := ⟨none, 0, rfl, [], ListR.nil, own_none _ _ _ _⟩
theorem ExSl.own {u w : World} {base : Nat} {v : Value} {l : List Ex} (h : ExSl u w base v l) : ∃ css, ListR (ExR (PRow u)) 9 l css ∧ w.ownsRow base 27 9 v l.length css.flatten := by
  obtain ⟨A, c, rfl, css, h1, h2⟩ := h
  exact ⟨css, h1, h2⟩
theorem ExSl.keep {u w w' : World} {base : Nat} {v : Value} {l : List Ex} (h : ExSl u w base v l) (k : ∀ xs, w.ownsRow base 27 9 v l.length xs → w'.ownsRow base 27 9 v l.length xs) : ExSl u w' base v l := by
  obtain ⟨A, c, rfl, css, h1, h2⟩ := h
  exact ⟨A, c, rfl, css, h1, k _ h2⟩
theorem ExSl.grew {u w w' : World} {base : Nat} {v : Value} {l : List Ex} (h : ExSl u w base v l) (g : Grew w w') : ExSl u w' base v l := h.keep fun _ ho => own_grewE ho g
structure Bins (u w : World) (base : Nat) (vs : List Value) (ls : List (List Ex)) : Prop where
  len : vs.length = ls.length
  each : ∀ (j : Nat) (v : Value) (l : List Ex), vs[j]? = some v → ls[j]? = some l → ExSl u w base v l
  apart : ∀ (j k : Nat) (v v' : Value), j ≠ k → vs[j]? = some v → vs[k]? = some v' → ∀ b, v.ownBlock = some b → v'.ownBlock ≠ some b
theorem Bins.keep {u w w' : World} {base : Nat} {vs : List Value} {ls : List (List Ex)} (h : Bins u w base vs ls) (k : ∀ (j : Nat) (v : Value) (l : List Ex), vs[j]? = some v → ls[j]? = some l → ∀ xs, w.ownsRow base 27 9 v l.length xs → w'.ownsRow base 27 9 v l.length xs) : Bins u w' base vs ls :=
  ⟨h.len, fun j v l hv hl => (h.each j v l hv hl).keep (k j v l hv hl), h.apart⟩
theorem Bins.grew {u w w' : World} {base : Nat} {vs : List Value} {ls : List (List Ex)} (h : Bins u w base vs ls) (g : Grew w w') : Bins u w' base vs ls := h.keep fun _ _ _ _ _ _ ho => own_grewE ho g
/-- A cell below is written. -/
theorem Bins.far {u w : World} {base : Nat} {vs : List Value} {ls : List (List Ex)} (h : Bins u w base vs ls) {p : Addr} (hp : p.block < base) (x : Value) : Bins u (w.setCell p x) base vs ls := h.keep fun _ _ _ _ _ _ ho => ownsRow_setCell_below ho hp x
/-- A row of another type has grown; one of its cells is written. -/
theorem Bins.other {u w w' : World} {base base' size' n' : Nat} {e' : TypeId} {v' : Value} {xs' : List Value} {vs : List Value} {ls : List (List Ex)} (h : Bins u w base vs ls) (ho : w.ownsRow base' e' size' v' n' xs') (he : 27 ≠ e') (g : w.grownBy w' v'.ownBlock) : Bins u w' base vs ls :=
  h.keep fun _ _ _ _ _ _ hx => own_grown hx g fun k hk e => type_apart hx ho he k hk e.symm
theorem Bins.otherSet {u w : World} {base base' size' n' : Nat} {e' : TypeId} {v' : Value} {xs' : List Value} {vs : List Value} {ls : List (List Ex)} (h : Bins u w base vs ls) (ho : w.ownsRow base' e' size' v' n' xs') (he : 27 ≠ e') {p : Addr} (hp : v'.ownBlock = some p.block) (x : Value) : Bins u (w.setCell p x) base vs ls :=
  h.keep fun _ _ _ _ _ _ hx => own_aside2 hx (fun b hb e => type_apart hx ho he b hb (by rw [hp, e])) x
/-- One of them is put longer, in its own block or in a new one. -/
theorem Bins.put {u w w1 : World} {base j : Nat} {vs : List Value} {ls : List (List Ex)} {v v' : Value} {l l' : List Ex} (n : Bins u w base vs ls) (hj : vs[j]? = some v) (hl : ls[j]? = some l)
    (ho : ExSl u w1 base v' l') (hg : w.grownBy w1 v.ownBlock) (hb : v'.ownBlock = v.ownBlock ∨ v'.ownBlock = some w.heap.size) : Bins u w1 base (vs.set j v') (ls.set j l') := by
  have hjl : j < vs.length := (List.getElem?_eq_some_iff.1 hj).1
  have hjl' : j < ls.length := (List.getElem?_eq_some_iff.1 hl).1
  refine ⟨by simp [n.len], fun k y m hy hm => ?_, fun a b y y' hab hy hy' => ?_⟩
  · by_cases hk : k = j
    · subst hk
      rw [List.getElem?_set_self hjl] at hy
      rw [List.getElem?_set_self hjl'] at hm
      injection hy with hy
      injection hm with hm
      subst hy hm
      exact ho
    · rw [List.getElem?_set_ne (Ne.symm hk)] at hy hm
      exact (n.each k y m hy hm).keep fun xs hx => own_grown hx hg fun b hb e => n.apart k j y v hk hy hj b hb e.symm
  · by_cases ha : a = j
    · subst ha
      rw [List.getElem?_set_self hjl] at hy
      injection hy with hy
      subst hy
      rw [List.getElem?_set_ne hab] at hy'
      intro q hq hq'
      rcases hb with e | e
      · exact n.apart a b v y' hab hj hy' q (by rw [← e]; exact hq) hq'
      · have hl' : b < ls.length := by rw [← n.len]; exact (List.getElem?_eq_some_iff.1 hy').1
        obtain ⟨css, _, ho'⟩ := (n.each b y' _ hy' (List.getElem?_eq_getElem hl')).own
        have := own_lt ho' q hq'
        rw [e] at hq
        injection hq with hq
        omega
    · rw [List.getElem?_set_ne (Ne.symm ha)] at hy
      by_cases hb' : b = j
      · subst hb'
        rw [List.getElem?_set_self hjl] at hy'
        injection hy' with hy'
        subst hy'
        intro q hq hq'
        rcases hb with e | e
        · exact n.apart a b y v hab hy hj q hq (by rw [← e]; exact hq')
        · have hl' : a < ls.length := by rw [← n.len]; exact (List.getElem?_eq_some_iff.1 hy).1
          obtain ⟨css, _, ho'⟩ := (n.each a y _ hy (List.getElem?_eq_getElem hl')).own
          have := own_lt ho' q hq
          rw [e] at hq'
          injection hq' with hq'
          omega
      · rw [List.getElem?_set_ne (Ne.symm hb')] at hy'
        exact n.apart a b y y' hab hy hy'
theorem Bins.nil (u w : World) (base n : Nat) : Bins u w base (List.replicate n (.slice none 0 0)) (List.replicate n []) := by
  refine ⟨by simp, fun j v l hv hl => ?_, fun j k v v' _ hv _ b hb => ?_⟩
  · have h1 := List.mem_of_getElem? hv
    have h2 := List.mem_of_getElem? hl
    rw [List.mem_replicate] at h1 h2
    rw [h1.2, h2.2]
    exact ExSl.nil _ _ _
  · have h1 := List.mem_of_getElem? hv
    rw [List.mem_replicate] at h1
    rw [h1.2] at hb
    cases hb
end Go.Proofs.Ytoaciliojdaoaaa

/- Layer 16: a table behind the core, while it is put together. No condition. -/
namespace Go.Proofs.Ytoaciliojdaoaaa
open Go.RowKit

/-- append, with where its row lies behind it. -/
theorem wpList_appC {P : Program} {w : World} {ops : Array Oper} {rest : List Oper} {o : Oper} {a : Act} {Q : Exit → Act → World → Prop} (hgd : o.guard = none) (s x : Operand) (t e : TypeId) (size : Nat)
    (ho : o.op = .call { callee := .builtin .append, args := #[s, x], argTypes := #[t, t] })
    (base : Nat) (z : Value) (bytes : Nat) (ht : P.underlying t = some (.slice e)) (hi : (P.info? e).map (fun i => (i.zero, i.size, i.bytes)) = some (some z, size, bytes)) (hzs : z.cells.size = size) (hsz : 0 < size) (hb8 : bytes ≤ 256)
    (v : Value) (n : Nat) (xs : List Value) (hs : a.eval s = v) (hown : w.ownsRow base e size v n xs)
    (A : Option Addr) (m c : Nat) (news : List Value) (hx : a.eval x = .slice A m c) (hl : news.length = m * size) (hr : Row w A news) (h1 : ∀ u ∈ news, u.oneCell' = true)
    (hsm : n + m ≤ 549755813888) (hg : base ≤ w.heap.size)
    (h : ∀ A' c' w', w'.ownsRow base e size (.slice A' (n + m) c') (n + m) (xs ++ news) → w.grownBy w' v.ownBlock → ((Value.slice A' (n + m) c').ownBlock = v.ownBlock ∨ (Value.slice A' (n + m) c').ownBlock = some w.heap.size) → wpList P ops Q rest (a.put o.dst (.slice A' (n + m) c')) w') : wpList P ops Q (o :: rest) a w := by
  obtain ⟨i, hi0, hz, hs1, hb⟩ := info_parts hi
  have hbb : (n + m) * bytes ≤ 549755813888 * 256 := Nat.mul_le_mul hsm hb8
  refine wpList_append_row w hgd s x t ho base e i z size bytes ht hi0 hz hs1 hb hzs hsz v n xs hs hown A m c news hx hl hr h1 (by unfold maxLen; omega) (by omega) hg ?_
  intro A' c' w' ho' hr' hgb hor
  exact h A' c' w' ho' hgb hor
def edC' (e : Ed) : List Value := [.int .i64 e.a, .int .i64 e.ac, .int .i64 e.b, .int .i64 e.bc]
def edsC (l : List Ed) : List Value := (l.map edC').flatten
theorem edsC_snoc (l : List Ed) (e : Ed) : edsC l ++ edC' e = edsC (l ++ [e]) := by simp [edsC]
theorem listR_eds (l : List Ed) : ListR EdR 4 l (l.map edC') := by
  refine ⟨by simp, fun i x cs h1 h2 => ?_⟩
  rw [List.getElem?_map, h1] at h2
  injection h2 with h2
  subst h2
  exact ⟨rfl, rfl⟩
theorem infoEd : (Try.prog.info? 68).map (fun i => (i.zero, i.size, i.bytes)) = some (some (.agg #[.int .i64 0, .int .i64 0, .int .i64 0, .int .i64 0]), 4, 32) := by kernel_rfl
/-- A slice of edges of one's own. -/
def EdSl (w : World) (base : Nat) (v : Value) (l : List Ed) : Prop := ∃ A c, v = .slice A l.length c ∧ w.ownsRow base 68 4 v l.length (edsC l)
theorem EdSl.nil (w : World) (base : Nat) : EdSl w base (.slice none 0 0) [] := ⟨none, 0, rfl, own_none _ _ _ _⟩
theorem EdSl.eds {w : World} {base : Nat} {v : Value} {l : List Ed} (h : EdSl w base v l) : ∃ A c, v = .slice A l.length c ∧ EdsR (PRow w) A l := by
  obtain ⟨A, c, rfl, h⟩ := h
  obtain ⟨A', c', e, h3⟩ := own_row h
  injection e with e _ _
  subst e
  exact ⟨A, c, rfl, _, listR_eds l, h3⟩
theorem exsU_nine {u w : World} {A : Option Addr} {l : List Ex} (h : ExsU u w A l) {i : Nat} (hi : i < l.length) :
    ∃ b o B k, A = some ⟨b, o, none⟩ ∧ ExsR (PRow u) B l[i].l ∧ At9 w b (o + i * 9) l[i] B k := by
  obtain ⟨css, h1, h2⟩ := h
  obtain ⟨b, o, cs, hA, hb, hr, _, hc⟩ := h1.at_ h2 (by decide) hi
  obtain ⟨B, k, rfl, hp⟩ := hr.parts
  have hc' : ∀ j v, (exC l[i] B k)[j]? = some v → w.cell? ⟨b, o + i * 9 + j, none⟩ = some v := fun j v hv => by rw [Nat.add_assoc]; exact hc j v hv
  exact ⟨b, o, B, k, hA, hp, hb, hc' 0 _ rfl, hc' 1 _ rfl, hc' 2 _ rfl, hc' 3 _ rfl, hc' 4 _ rfl, hc' 5 _ rfl, hc' 6 _ rfl, hc' 7 _ rfl, hc' 8 _ rfl⟩
theorem heap_grew {w w' : World} (g : Grew w w') {i : Nat} (h : i < w.heap.size) : w'.heap[i]? = w.heap[i]? := by
  obtain ⟨x, rfl⟩ := g
  exact more_block w x i h
theorem heap_set (w : World) {a : Addr} (x : Value) {i : Nat} (h : i ≠ a.block) : (w.setCell a x).heap[i]? = w.heap[i]? := by
  simp only [World.setCell, Array.getElem?_modify]
  rw [if_neg (fun e => h e.symm)]
/-- A row of expressions lies in no block of fewer than nine cells: what else is written does not touch it. -/
theorem ExsU.kept {u w w' : World} {A : Option Addr} {l : List Ex} {g : Nat} {t : TypeId} {cs : Array Value} (h : ExsU u w A l) (hk : ∀ i, i < w.heap.size → i ≠ g → w'.heap[i]? = w.heap[i]?) (hs : w.heap.size ≤ w'.heap.size) (hb : Blok w g t cs) (hc : cs.size < 9) : ExsU u w' A l := by
  obtain ⟨css, h1, h2⟩ := h
  refine ⟨css, h1, ?_⟩
  rcases h2 with h2 | ⟨b, o, hA, hlt, hcell⟩
  · exact Or.inl h2
  · have hfl := h1.flat
    rcases Nat.eq_zero_or_pos l.length with h0 | h0
    · exact Or.inl (List.eq_nil_of_length_eq_zero (by rw [hfl, h0, Nat.zero_mul]))
    · have hne : b ≠ g := fun e => by
        subst e
        have h8 : 8 < css.flatten.length := by rw [hfl]; omega
        have := hcell 8 _ (List.getElem?_eq_getElem h8)
        rw [hb.cell, Array.getElem?_eq_none (by omega)] at this
        cases this
      refine Or.inr ⟨b, o, hA, Nat.lt_of_lt_of_le hlt hs, fun j x hx => ?_⟩
      rw [← hcell j x hx]
      simp only [World.cell?, hk b hlt hne]
/-- A table behind the core, in a block of its own, with its lists in rows of their own. -/
structure Lst (r u v w : World) (base g : Nat) (tb jn : Int) (ks : List Ed) (sc rs : List Ex) (vK vS vR : Value) : Prop where
  blk : Blok w g 72 #[.int .i64 tb, .int .i64 jn, vK, vS, vR]
  keys : EdSl w base vK ks
  bins : Bins r w base [vS, vR] [sc, rs]
  grew : Grew u w
  size : base ≤ w.heap.size
  low : u.heap.size ≤ g ∧ g < base
  kept : ∀ i, i < base → i ≠ g → w.heap[i]? = v.heap[i]?
section
variable {r u v w w' : World} {base g : Nat} {tb jn : Int} {ks : List Ed} {sc rs : List Ex} {vK vS vR : Value}
theorem Lst.more (h : Lst r u v w base g tb jn ks sc rs vK vS vR) (k : Grew w w') : Lst r u v w' base g tb jn ks sc rs vK vS vR := by
  obtain ⟨A, c, e, ho⟩ := h.keys
  exact ⟨h.blk.grew k, ⟨A, c, e, own_grewE ho k⟩, h.bins.grew k, h.grew.trans k, Nat.le_trans h.size k.size, h.low, fun i hi hn => (heap_grew k (Nat.lt_of_lt_of_le hi h.size)).trans (h.kept i hi hn)⟩
theorem Lst.ownS (h : Lst r u v w base g tb jn ks sc rs vK vS vR) : ∃ css, ListR (ExR (PRow r)) 9 sc css ∧ w.ownsRow base 27 9 vS sc.length css.flatten := (h.bins.each 0 vS sc rfl rfl).own
theorem Lst.ownR (h : Lst r u v w base g tb jn ks sc rs vK vS vR) : ∃ css, ListR (ExR (PRow r)) 9 rs css ∧ w.ownsRow base 27 9 vR rs.length css.flatten := (h.bins.each 1 vR rs rfl rfl).own
theorem ExSl.snoc {u w' : World} {base : Nat} {l : List Ex} {css : List (List Value)} (hc : ListR (ExR (PRow u)) 9 l css) {x : Ex} {PA : Option Addr} {ka : Nat} (hx : ExsR (PRow u) PA x.l) {A' : Option Addr} {c' : Nat} (ho : w'.ownsRow base 27 9 (.slice A' (l.length + 1) c') (l.length + 1) (css.flatten ++ exC x PA ka)) :
    ExSl u w' base (.slice A' (l.length + 1) c') (l ++ [x]) := by
  have e : (l ++ [x]).length = l.length + 1 := by simp
  refine ⟨A', c', by rw [e], css ++ [exC x PA ka], listR_append hc (listR_single hx ka), ?_⟩
  rw [e, List.flatten_append]
  simpa using ho
theorem Lst.putS (h : Lst r u v w base g tb jn ks sc rs vK vS vR) {css : List (List Value)} (hc : ListR (ExR (PRow r)) 9 sc css) {x : Ex} {PA : Option Addr} {ka : Nat} (hx : ExsR (PRow r) PA x.l) {A' : Option Addr} {c' : Nat}
    (ho : w'.ownsRow base 27 9 (.slice A' (sc.length + 1) c') (sc.length + 1) (css.flatten ++ exC x PA ka)) (hgb : w.grownBy w' vS.ownBlock) (hor : (Value.slice A' (sc.length + 1) c').ownBlock = vS.ownBlock ∨ (Value.slice A' (sc.length + 1) c').ownBlock = some w.heap.size) :
    Lst r u v (w'.setCell ⟨g, 3, none⟩ (.slice A' (sc.length + 1) c')) base g tb jn ks (sc ++ [x]) rs vK (.slice A' (sc.length + 1) c') vR := by
  obtain ⟨css0, _, hoS⟩ := h.ownS
  have hb := own_base hoS
  obtain ⟨l1, l2⟩ := h.low
  obtain ⟨A, c, e, hk⟩ := h.keys
  have hbs := h.bins.put (j := 0) rfl rfl (ExSl.snoc hc hx ho) hgb hor
  exact ⟨(h.blk.grown hgb fun e => by have := hb g e; omega).set 3 _, ⟨A, c, e, ownsRow_setCell_below (own_grown hk hgb fun b hb' e => type_apart hk hoS (by decide) b hb' e.symm) l2 _⟩, hbs.far l2 _, (h.grew.grown hgb fun b hb' => by have := hb b hb'; omega).setCell l1 _, by rw [World.size_setCell]; exact Nat.le_trans h.size hgb.size, h.low, fun i hi hn => by
    rw [heap_set _ _ hn, hgb.block i (Nat.lt_of_lt_of_le hi h.size) (fun e => by have := hb i e.symm; omega)]
    exact h.kept i hi hn⟩
theorem Lst.putR (h : Lst r u v w base g tb jn ks sc rs vK vS vR) {css : List (List Value)} (hc : ListR (ExR (PRow r)) 9 rs css) {x : Ex} {PA : Option Addr} {ka : Nat} (hx : ExsR (PRow r) PA x.l) {A' : Option Addr} {c' : Nat}
    (ho : w'.ownsRow base 27 9 (.slice A' (rs.length + 1) c') (rs.length + 1) (css.flatten ++ exC x PA ka)) (hgb : w.grownBy w' vR.ownBlock) (hor : (Value.slice A' (rs.length + 1) c').ownBlock = vR.ownBlock ∨ (Value.slice A' (rs.length + 1) c').ownBlock = some w.heap.size) :
    Lst r u v (w'.setCell ⟨g, 4, none⟩ (.slice A' (rs.length + 1) c')) base g tb jn ks sc (rs ++ [x]) vK vS (.slice A' (rs.length + 1) c') := by
  obtain ⟨css0, _, hoR⟩ := h.ownR
  have hb := own_base hoR
  obtain ⟨l1, l2⟩ := h.low
  obtain ⟨A, c, e, hk⟩ := h.keys
  have hbs := h.bins.put (j := 1) rfl rfl (ExSl.snoc hc hx ho) hgb hor
  exact ⟨(h.blk.grown hgb fun e => by have := hb g e; omega).set 4 _, ⟨A, c, e, ownsRow_setCell_below (own_grown hk hgb fun b hb' e => type_apart hk hoR (by decide) b hb' e.symm) l2 _⟩, hbs.far l2 _, (h.grew.grown hgb fun b hb' => by have := hb b hb'; omega).setCell l1 _, by rw [World.size_setCell]; exact Nat.le_trans h.size hgb.size, h.low, fun i hi hn => by
    rw [heap_set _ _ hn, hgb.block i (Nat.lt_of_lt_of_le hi h.size) (fun e => by have := hb i e.symm; omega)]
    exact h.kept i hi hn⟩
theorem Lst.putK (h : Lst r u v w base g tb jn ks sc rs vK vS vR) {e : Ed} {A' : Option Addr} {c' : Nat}
    (ho : w'.ownsRow base 68 4 (.slice A' (ks.length + 1) c') (ks.length + 1) (edsC ks ++ edC' e)) (hgb : w.grownBy w' vK.ownBlock) :
    Lst r u v (w'.setCell ⟨g, 2, none⟩ (.slice A' (ks.length + 1) c')) base g tb jn (ks ++ [e]) sc rs (.slice A' (ks.length + 1) c') vS vR := by
  obtain ⟨l1, l2⟩ := h.low
  obtain ⟨A, c, rfl, hk⟩ := h.keys
  have hb := own_base hk
  have el : (ks ++ [e]).length = ks.length + 1 := by simp
  rw [edsC_snoc] at ho
  exact ⟨(h.blk.grown hgb fun e => by have := hb g e; omega).set 2 _, ⟨A', c', by rw [el], by rw [el]; exact ownsRow_setCell_below ho l2 _⟩, (h.bins.other hk (by decide) hgb).far l2 _, (h.grew.grown hgb fun b hb' => by have := hb b hb'; omega).setCell l1 _, by rw [World.size_setCell]; exact Nat.le_trans h.size hgb.size, h.low, fun i hi hn => by
    rw [heap_set _ _ hn, hgb.block i (Nat.lt_of_lt_of_le hi h.size) (fun e => by have := hb i e.symm; omega)]
    exact h.kept i hi hn⟩
end
/-- Is it a key of table t? What of the parts goes where. -/
def isK (t : Int) (x : Ex) : Bool := (edgeP x).2 && ((edgeP x).1.b == t)
def onlyT (t : Int) (x : Ex) : Bool := decide (useX x = [t])
def ltK (t : Int) (l : List Ex) : List Ed := (l.filter (isK t)).map fun x => (edgeP x).1
def ltS (t : Int) (l : List Ex) : List Ex := l.filter fun x => !isK t x && onlyT t x
def ltR (t : Int) (l : List Ex) : List Ex := l.filter fun x => !isK t x && !onlyT t x
def lateX (f : Fr) (t : Int) : La := ⟨t, f.join, ltK t (partsX f.on), ltS t (partsX f.on), ltR t (partsX f.on)⟩
theorem filter_take {α : Type} (p : α → Bool) {l : List α} {j : Nat} (h : j < l.length) : (l.take (j + 1)).filter p = (l.take j).filter p ++ if p l[j] then [l[j]] else [] := by
  rw [List.take_succ_eq_append_getElem h, List.filter_append]
  cases hp : p l[j] <;> simp [hp]
theorem lt_key {t : Int} {l : List Ex} {j : Nat} (h : j < l.length) (hk : isK t l[j] = true) : ltK t (l.take (j + 1)) = ltK t (l.take j) ++ [(edgeP l[j]).1] ∧ ltS t (l.take (j + 1)) = ltS t (l.take j) ∧ ltR t (l.take (j + 1)) = ltR t (l.take j) := by
  unfold ltK ltS ltR
  rw [filter_take _ h, filter_take _ h, filter_take _ h, hk]
  simp
theorem lt_scan {t : Int} {l : List Ex} {j : Nat} (h : j < l.length) (hk : isK t l[j] = false) (ho : onlyT t l[j] = true) : ltK t (l.take (j + 1)) = ltK t (l.take j) ∧ ltS t (l.take (j + 1)) = ltS t (l.take j) ++ [l[j]] ∧ ltR t (l.take (j + 1)) = ltR t (l.take j) := by
  unfold ltK ltS ltR
  rw [filter_take _ h, filter_take _ h, filter_take _ h, hk, ho]
  simp
theorem lt_rest {t : Int} {l : List Ex} {j : Nat} (h : j < l.length) (hk : isK t l[j] = false) (ho : onlyT t l[j] = false) : ltK t (l.take (j + 1)) = ltK t (l.take j) ∧ ltS t (l.take (j + 1)) = ltS t (l.take j) ∧ ltR t (l.take (j + 1)) = ltR t (l.take j) ++ [l[j]] := by
  unfold ltK ltS ltR
  rw [filter_take _ h, filter_take _ h, filter_take _ h, hk, ho]
  simp
/-- What comes back: a table behind the core, its lists in rows of their own. -/
def LateF (r u : World) (x : La) (e : Ending) (w' : World) : Prop :=
  ∃ vK vS vR, e = .returned (.agg #[.int .i64 x.table, .int .i64 x.join, vK, vS, vR]) ∧ Grew u w' ∧ EdSl w' u.heap.size vK x.keys ∧ Bins r w' u.heap.size [vS, vR] [x.scan, x.rest]
end Go.Proofs.Ytoaciliojdaoaaa

/- Layer 16: a table behind the core, by the program. Condition: a source that lies in memory that is there. -/
namespace Go.Proofs.Ytoaciliojdaoaaa
open Go.RowKit
attribute [local go_sem] more_cell more_frozen more_more more_setCell more_of_drew more_of_drewN lt_more le_more past_cell past_cell2 past_frozen past_frozen2 past_setCell past_setCell2 mid_cell mid_frozen mid_setCell
attribute [local go_sem ↓] Go.wp_at_zero Go.wp_at_succ

def LtAt (r u v : World) (base g : Nat) (tb jn : Int) (l : List Ex) (i : Value) (wr : World) : Prop :=
  ∃ (j : Nat) (vK vS vR : Value), j ≤ l.length ∧ i = .int .i64 j ∧ Lst r u v wr base g tb jn (ltK tb (l.take j)) (ltS tb (l.take j)) (ltR tb (l.take j)) vK vS vR
theorem lst_new {r u v : World} {g : Nat} {tb jn : Int} (hb : Blok v g 72 #[.int .i64 tb, .int .i64 jn, .slice none 0 0, .slice none 0 0, .slice none 0 0]) (hg : Grew u v) (hu : u.heap.size ≤ g) : Lst r u v v v.heap.size g tb jn [] [] [] (.slice none 0 0) (.slice none 0 0) (.slice none 0 0) :=
  ⟨hb, EdSl.nil _ _, Bins.nil r v v.heap.size 2, hg, Nat.le_refl _, ⟨hu, hb.lt⟩, fun _ _ _ => rfl⟩
/-- What comes back, out of what was put together. -/
theorem Lst.late {r u v w : World} {base g : Nat} {t jn : Int} {ks : List Ed} {sc rs : List Ex} {vK vS vR : Value} (h : Lst r u v w base g t jn ks sc rs vK vS vR) {w' : World} (hw : ∀ i, base ≤ i → i < w.heap.size → w'.heap[i]? = w.heap[i]?) (hg : Grew u w') : LateF r u ⟨t, jn, ks, sc, rs⟩ (.returned (.agg #[.int .i64 t, .int .i64 jn, vK, vS, vR])) w' := by
  have hk : ∀ {e size n v xs}, w.ownsRow base e size v n xs → w'.ownsRow u.heap.size e size v n xs := fun {e size n v xs} ho => by
    have hlt := own_lt ho
    have hub : u.heap.size ≤ base := by have := h.low; omega
    refine own_le ⟨ho.1, ?_⟩ hub
    rcases ho.2 with q | ⟨q, cap, cur, rfl, hb, hh, r⟩
    · exact Or.inl q
    · exact Or.inr ⟨q, cap, cur, rfl, hb, by rw [hw q hb (hlt q rfl)]; exact hh, r⟩
  refine ⟨vK, vS, vR, rfl, hg, ?_, ?_⟩
  · obtain ⟨A, c, e, ho⟩ := h.keys
    exact ⟨A, c, e, hk ho⟩
  · refine ⟨h.bins.len, fun j v l hv hl => ?_, h.bins.apart⟩
    obtain ⟨A, c, e, css, h1, h2⟩ := h.bins.each j v l hv hl
    exact ⟨A, c, e, css, h1, hk h2⟩
theorem lt_len {t : Int} {l : List Ex} {j : Nat} (hj : j ≤ l.length) : (ltK t (l.take j)).length ≤ l.length ∧ (ltS t (l.take j)).length ≤ l.length ∧ (ltR t (l.take j)).length ≤ l.length := by
  have h : ∀ p : Ex → Bool, ((l.take j).filter p).length ≤ l.length := fun p => by
    have := List.length_filter_le p (l.take j)
    rw [List.length_take] at this
    omega
  exact ⟨by unfold ltK; rw [List.length_map]; exact h _, h _, h _⟩
end Go.Proofs.Ytoaciliojdaoaaa

/- Layer 16: a table behind the core, by the document. Condition: a source that lies in memory that is there. -/
namespace Go.Proofs.Ytoaciliojdaoaaa
open Go.RowKit
attribute [local go_sem] more_cell more_frozen more_more more_setCell more_of_drew more_of_drewN lt_more le_more past_cell past_cell2 past_frozen past_frozen2 past_setCell past_setCell2 mid_cell mid_frozen mid_setCell
attribute [local go_sem ↓] Go.wp_at_zero Go.wp_at_succ

theorem At9.kept {w w' : World} {b o : Nat} {x : Ex} {B : Option Addr} {k : Nat} (h : At9 w b o x B k) (hk : w'.heap[b]? = w.heap[b]?) : At9 w' b o x B k := by
  have hc : ∀ j, w'.cell? ⟨b, j, none⟩ = w.cell? ⟨b, j, none⟩ := fun j => by simp only [World.cell?, hk]
  obtain ⟨h0, h1, h2, h3, h4, h5, h6, h7, h8, h9⟩ := h
  refine ⟨?_, by rw [hc]; exact h1, by rw [hc]; exact h2, by rw [hc]; exact h3, by rw [hc]; exact h4, by rw [hc]; exact h5, by rw [hc]; exact h6, by rw [hc]; exact h7, by rw [hc]; exact h8, by rw [hc]; exact h9⟩
  rcases Nat.lt_or_ge b w'.heap.size with h | h
  · exact h
  · rw [Array.getElem?_eq_none h, Array.getElem?_eq_getElem h0] at hk
    cases hk
set_option maxHeartbeats 8000000 in
set_option maxRecDepth 100000 in
theorem rlate_any (f : Fr) (t : Int) (A : Option Addr) (k : Nat) (hx : f.on.nodes ≤ 100000) (r w : World) (hr : Grew r w) (ra : ExsR (PRow r) A f.on.l) :
    Calls Try.prog 28 #[frV f A k, .int .i64 t] w (LateF r w (lateX f t)) := by
  have HC : Hid (∀ W, Grew w W → Calls Try.prog 24 #[exV f.on A k] W (ColsF r W (partsX f.on))) := Lib.hid fun W hW => rparts_ex _ f.on (Nat.lt_succ_self _) A k r W hx (hr.trans hW) ra
  have HPn : Hid (∀ y ∈ partsX f.on, y.nodes ≤ 100000) := Lib.hid fun y hy => by have := partsX_nodes f.on y hy; omega
  have HL : Hid ((partsX f.on).length ≤ 1000000) := Lib.hid (by have := partsX_len f.on; omega)
  have HF : Hid (lateX f t = ⟨t, f.join, ltK t (partsX f.on), ltS t (partsX f.on), ltR t (partsX f.on)⟩) := Lib.hid rfl
  have HRr := Lib.hid hr
  clear ra hx hr
  generalize partsX f.on = l at *
  generalize lateX f t = fin at *
  unfold frV exV at *
  go_enter Try.func28, Try.ntmps28
  go_upto_region 4 with (go_at_call 24; (with_reducible refine (HC.out _ (((Grew.refl w).alloc _).alloc _ |>.alloc _)).mono ?_); rintro e w2 ⟨A2, k2, rfl, hg2, hx2⟩; have HB4 : Hid (Blok w2 (w.heap.size + 1) 72 #[.int .i64 0, .int .i64 0, .slice none 0 0, .slice none 0 0, .slice none 0 0]) := Lib.hid (((Blok.new _ _ _ _ (by simp)).alloc _).grew hg2); have HS0 := Lib.hid (lst_new (r := r) (g := w.heap.size + 1 + 1) (tb := t) (jn := f.join) ((Blok.new _ _ _ _ (by simp)).grew hg2) ((((Grew.refl w).alloc _).alloc _ |>.alloc _).trans hg2) (by omega)); have HX := Lib.hid hx2; clear hg2 hx2)
  have hne : w.heap.size + 1 ≠ w.heap.size + 1 + 1 := by omega
  have hu4 : w.heap.size ≤ w.heap.size + 1 := by omega
  generalize w.heap.size + 1 + 1 = g at *
  generalize w.heap.size + 1 = b4 at *
  clear HC
  go_loopw [7] (fun i wr => LtAt r w w2 w2.heap.size g t f.join l i wr) (fun i _ => l.length - (intOf i).toNat)
  case atStart => exact ⟨0, _, _, _, Nat.zero_le _, rfl, HS0.out⟩
  case round =>
    obtain ⟨j, vK, vS, vR, hj, rfl, hs⟩ := hrel
    have HS := Lib.hid hs
    clear hs
    have hll := HL.out
    have hX : ExsU r wr A2 l := HX.out.kept (g := g) (fun i hi hn => HS.out.kept i hi hn) HS.out.size HS0.out.blk (by simp)
    by_cases h : j < l.length
    · obtain ⟨ba, oa, PA, ka, rfl, hpa, h9⟩ := exsU_nine hX h
      obtain ⟨lk, ls, lr⟩ := lt_len (t := t) (Nat.le_of_lt h)
      have hyn := HPn.out _ (List.getElem_mem h)
      have HN1 := Lib.hid (fun q => lt_key (t := t) h q)
      have HN2 := Lib.hid (fun q q' => lt_scan (t := t) h q q')
      have HN3 := Lib.hid (fun q q' => lt_rest (t := t) h q q')
      have HUs : Hid (∀ W, Grew w W → Calls Try.prog 26 #[exV l[j] PA ka] W (SetF W (useX l[j]))) := Lib.hid fun W hW => ruses_any _ PA ka hyn W (hpa.grew (HRr.out.trans hW))
      have HEd : Hid (∀ W, Grew w W → Gives Try.prog 27 #[exV l[j] PA ka] W (.tuple #[edV (edgeP l[j]).1, .bool (edgeP l[j]).2])) := Lib.hid fun W hW => redge_any _ PA ka W (hpa.grew (HRr.out.trans hW))
      have HPA := Lib.hid hpa
      have HA9 : Hid (At9 w2 ba (oa + j * 9) l[j] PA ka) := Lib.hid (by
        have hw : w2.heap[ba]? = wr.heap[ba]? := by
          obtain ⟨css, h1, h2⟩ := HX.out
          have hfl := h1.flat
          rcases h2 with h2 | ⟨b, o, hA, hlt, hcell⟩
          · rw [h2] at hfl; simp at hfl; omega
          · injection hA with hA
            injection hA with hA1 hA2 _
            subst hA1 hA2
            have hne' : ba ≠ g := fun e => by
              subst e
              have h8 : 8 < css.flatten.length := by rw [hfl]; omega
              have := hcell 8 _ (List.getElem?_eq_getElem h8)
              rw [HS0.out.blk.cell, Array.getElem?_eq_none (by simp)] at this
              cases this
            exact (HS.out.kept ba hlt hne').symm
        exact h9.kept hw)
      have HBa : Hid (ba < w2.heap.size ∧ ba ≠ g) := Lib.hid ⟨HA9.out.lt, fun e => by
        have h1 := HS0.out.blk.cell 8
        obtain ⟨css, h0, h2⟩ := HX.out
        have hfl := h0.flat
        rcases h2 with h2 | ⟨b, o, hA, hlt, hcell⟩
        · rw [h2] at hfl; simp at hfl; omega
        · injection hA with hA
          injection hA with hA1 hA2 _
          subst hA1 hA2 e
          have h8 : 8 < css.flatten.length := by rw [hfl]; omega
          have := hcell 8 _ (List.getElem?_eq_getElem h8)
          rw [HS0.out.blk.cell, Array.getElem?_eq_none (by simp)] at this
          cases this⟩
      have hbl := HBa.out.1
      have hbn := HBa.out.2
      obtain ⟨p0, a0, a1, a2, a3, a4, a5, a6, a7, a8⟩ := HA9.out.kept (HS.out.kept ba hbl hbn)
      clear hX hpa hyn
      generalize ltK t (l.take j) = ks at *
      generalize ltS t (l.take j) = sc at *
      generalize ltR t (l.take j) = rs at *
      generalize l[j] = y at *
      unfold isK at HN1 HN2 HN3
      generalize edgeP y = ed at *
      obtain ⟨⟨e1, e2, e3, e4⟩, is⟩ := ed
      unfold exV at HUs HEd
      unfold edV at HEd
      simp only at HN1 HN2 HN3
      go_upto_region 7 with (go_at_call 27; (with_reducible refine (HEd.out _ HS.out.grew).grows.mono ?_); rintro e W8 ⟨rfl, hg8⟩; have HG8 := Lib.hid hg8; clear hg8)
      have HS6 := Lib.hid ((HS.out.more HG8.out).more ((Grew.refl W8).alloc (.cells #[.int .i64 e1, .int .i64 e2, .int .i64 e3, .int .i64 e4] 68)))
      have HE6 : Hid (Blok (W8.alloc (.cells #[.int .i64 e1, .int .i64 e2, .int .i64 e3, .int .i64 e4] 68)) W8.heap.size 68 #[.int .i64 e1, .int .i64 e2, .int .i64 e3, .int .i64 e4]) := Lib.hid (Blok.new _ _ _ _ rfl)
      clear HS a0 a1 a2 a3 a4 a5 a6 a7 a8 p0 HG8 HEd
      generalize (W8.alloc (.cells #[.int .i64 e1, .int .i64 e2, .int .i64 e3, .int .i64 e4] 68)) = W6 at *
      generalize W8.heap.size = b9 at *
      obtain ⟨p0, a0, a1, a2, a3, a4, a5, a6, a7, a8⟩ := HA9.out.kept (HS6.out.kept ba hbl hbn)
      go_upto_region 8 with (go_at_call 26; (with_reducible refine (HUs.out _ HS6.out.grew).mono ?_); rintro e W9 ⟨B6, c6, rfl, hc6, hg6, hr6⟩; have HS9 := Lib.hid (HS6.out.more hg6); have HE9 := Lib.hid (HE6.out.grew hg6); have HR9 := Lib.hid hr6; clear hg6 hr6)
      clear HS6 HE6 p0 a0 a1 a2 a3 a4 a5 a6 a7 a8 HUs
      obtain ⟨r0, d0, d1, d2, d3, _, _, _, _⟩ := ed_in HE9.out
      have hgl : g < W9.heap.size := HS9.out.blk.lt
      have m2 : W9.cell? ⟨g, 2, none⟩ = some vK := HS9.out.blk.cell 2
      have m3 : W9.cell? ⟨g, 3, none⟩ = some vS := HS9.out.blk.cell 3
      have m4 : W9.cell? ⟨g, 4, none⟩ = some vR := HS9.out.blk.cell 4
      have hsz := HS9.out.size
      by_cases hk : (is && (e3 == t)) = true
      · obtain ⟨k1, k2', k3⟩ := HN1.out hk
        have HK := Lib.hid (And.intro k1 (And.intro k2' k3))
        have hi : is = true := by simp at hk; exact hk.1
        have ht : e3 = t := by simp at hk; exact hk.2
        subst hi ht
        obtain ⟨AK, cK, rfl, hoK⟩ := HS9.out.keys
        have HOK := Lib.hid hoK
        clear k1 k2' k3 hk hoK HN1 HN2 HN3
        go_wp2_with (at_builtin; refine wpList_appC rfl (.tmp 45) (.tmp 47) 34 68 4 rfl w2.heap.size (.agg #[.int .i64 0, .int .i64 0, .int .i64 0, .int .i64 0]) 32 Try.underlying34 infoEd rfl (by decide) (by decide) _ ks.length _ rfl (own_alloc HOK.out _) _ 1 1 [.int .i64 e1, .int .i64 e2, .int .i64 e3, .int .i64 e4] rfl rfl (row_new _ _ _ #[.int .i64 e1, .int .i64 e2, .int .i64 e3, .int .i64 e4] (by simp)) (by simp [Value.oneCell']) (by omega) (by simp; omega) ?_; intro A' c' w' ho' hgb hor; have HSf := Lib.hid ((HS9.out.more ((Grew.refl W9).alloc _)).putK (e := ⟨e1, e2, e3, e4⟩) ho' hgb); have hbk := ((HS9.out.more ((Grew.refl W9).alloc _)).blk.grown hgb (fun e => by have := own_base HOK.out g e; have := HS9.out.low; omega)); have z2 := hbk.thaw 2; have zc := hbk.cell 2; have zl := hbk.lt; simp at zc; clear hbk ho' hgb hor)
        exact ⟨⟨j + 1, _, _, _, by omega, by go_num, by rw [HK.out.1, HK.out.2.1, HK.out.2.2]; exact HSf.out⟩, by simp only [intOf]; omega⟩
      · have hk' : (is && (e3 == t)) = false := by simpa using hk
        have hcase : is = false ∨ (is = true ∧ (e3 == t) = false) := by
          cases is
          · exact Or.inl rfl
          · exact Or.inr ⟨rfl, by simpa using hk'⟩
        have HN2' := Lib.hid (HN2.out hk')
        have HN3' := Lib.hid (HN3.out hk')
        clear HN1 HN2 HN3 hk hk'
        unfold onlyT at HN2' HN3'
        generalize useX y = us at *
        have hus : us = [t] ∨ (¬ us.length = 1) ∨ ∃ v, us = [v] ∧ ¬ v = t := by
          by_cases h1 : us.length = 1
          · obtain ⟨v, rfl⟩ := List.length_eq_one_iff.1 h1
            by_cases hv : v = t
            · exact Or.inl (by rw [hv])
            · exact Or.inr (Or.inr ⟨v, rfl, hv⟩)
          · exact Or.inr (Or.inl h1)
        rcases hus with rfl | hus
        · have HK := Lib.hid (HN2'.out (by simp))
          clear HN2' HN3'
          obtain ⟨bu, ou, rfl, hbu, hcu⟩ := rowI_at HR9.out (j := 0) (by simp)
          simp only [List.getElem_cons_zero, Nat.add_zero] at hcu
          obtain ⟨AS, cS, rfl, css, hcs, hoS⟩ := HS9.out.bins.each 0 vS sc rfl rfl
          have HOS := Lib.hid hoS
          have HCS := Lib.hid hcs
          clear hoS hcs
          simp only [List.length_cons, List.length_nil, Nat.zero_add] at *
          rcases hcase with rfl | ⟨rfl, hkt⟩
          all_goals (
            go_upto_region 11 with fail
            have HD9 := Lib.hid (HS9.out.more (Grew.refl W9).drew)
            have hS0 : Blok W9.drew g 72 #[.int .i64 t, .int .i64 f.join, vK, (.slice AS sc.length cS), vR] ∧ W9.drew.heap[ba]? = w2.heap[ba]? := ⟨HD9.out.blk, HD9.out.kept ba hbl hbn⟩
            refine wp_region_last (fun W => Blok W g 72 #[.int .i64 t, .int .i64 f.join, vK, (.slice AS sc.length cS), vR] ∧ W.heap[ba]? = w2.heap[ba]?) 9 rfl (by kernel_rfl) ?_
            refine last_take 0 (v := ?_) rfl (by kernel_rfl) (by kernel_rfl) (by kernel_rfl) (by kernel_rfl) (fun _ _ _ h => h) (by rfl) ?_ hS0 ?_
            rotate_left
            · (intro W hW; go_simp; with_reducible rfl)
            refine last_norm (a' := ?_) ?_ ?_
            rotate_left
            · (go_simp; with_reducible rfl)
            refine last_take 1 (v := ?_) rfl (by kernel_rfl) (by kernel_rfl) (by kernel_rfl) (by kernel_rfl) (fun _ _ _ h => h) (by rfl) ?_ hS0 ?_
            rotate_left
            · (intro W hW; have q := hW.1.cell 3; have ql := hW.1.lt; simp at q; go_simp; with_reducible rfl)
            refine last_norm (a' := ?_) ?_ ?_
            rotate_left
            · (go_simp; with_reducible rfl)
            refine last_take 2 (v := ?_) rfl (by kernel_rfl) (by kernel_rfl) (by kernel_rfl) (by kernel_rfl) (fun _ _ _ h => h) (by rfl) ?_ hS0 ?_
            rotate_left
            · (intro W hW; go_simp; with_reducible rfl)
            refine last_take 3 (v := ?_) rfl (by kernel_rfl) (by kernel_rfl) (by kernel_rfl) (by kernel_rfl) (fun _ _ _ h => h) (by rfl) ?_ hS0 ?_
            rotate_left
            · (intro W hW; go_simp; with_reducible rfl)
            refine last_take 4 (v := ?_) rfl (by kernel_rfl) (by kernel_rfl) (by kernel_rfl) (by kernel_rfl) (fun _ _ _ h => h) (by rfl) ?_ hS0 ?_
            rotate_left
            · (intro W hW; go_simp; with_reducible rfl)
            refine last_norm (a' := ?_) ?_ ?_
            rotate_left
            · (go_simp; with_reducible rfl)
            refine last_take 5 (v := ?_) rfl (by kernel_rfl) (by kernel_rfl) (by kernel_rfl) (by kernel_rfl) (fun _ _ _ h => h) (by rfl) ?_ hS0 ?_
            rotate_left
            · (intro W hW; obtain ⟨p0, a0, a1, a2, a3, a4, a5, a6, a7, a8⟩ := HA9.out.kept hW.2; go_simp; with_reducible rfl)
            refine last_norm (a' := ?_) ?_ ?_
            rotate_left
            · (go_simp; with_reducible rfl)
            refine last_call 6 (by kernel_rfl) (by kernel_rfl) rfl (by rfl) (fun K hK => ?_)
            go_simp
            go_wp2_with fail
            have HDa := Lib.hid (HD9.out.more ((Grew.refl W9.drew).alloc (.cells #[.int .i64 y.op, .string y.tab, .string y.name, .int .i64 y.t, .int .i64 y.c, .int .i64 y.vk, .int .i64 y.vi, .string y.vs, .slice PA y.l.length ka] 27)))
            have hSa : Blok (W9.drew.alloc (.cells #[.int .i64 y.op, .string y.tab, .string y.name, .int .i64 y.t, .int .i64 y.c, .int .i64 y.vk, .int .i64 y.vi, .string y.vs, .slice PA y.l.length ka] 27)) g 72 #[.int .i64 t, .int .i64 f.join, vK, (.slice AS sc.length cS), vR] ∧ (W9.drew.alloc (.cells #[.int .i64 y.op, .string y.tab, .string y.name, .int .i64 y.t, .int .i64 y.c, .int .i64 y.vk, .int .i64 y.vi, .string y.vs, .slice PA y.l.length ka] 27)).heap[ba]? = w2.heap[ba]? := ⟨HDa.out.blk, HDa.out.kept ba hbl hbn⟩
            refine hK.out _ _ hSa ?_
            clear hK K
            refine last_call 7 (by kernel_rfl) (by kernel_rfl) rfl (by rfl) (fun K hK => ?_)
            refine wp_appC (.tmp 61) (.tmp 66) 22 27 9 rfl w2.heap.size (.agg #[.int .i64 0, .string ⟨#[]⟩, .string ⟨#[]⟩, .int .i64 0, .int .i64 0, .int .i64 0, .int .i64 0, .string ⟨#[]⟩, .slice none 0 0]) 112 Try.underlying22 infoE rfl (by decide) (by decide) _ sc.length _ rfl (own_alloc (own_grewE HOS.out (Grew.refl W9).drew) _) _ 1 1 (exC y PA ka) rfl rfl (row_new W9.drew _ _ #[.int .i64 y.op, .string y.tab, .string y.name, .int .i64 y.t, .int .i64 y.c, .int .i64 y.vk, .int .i64 y.vi, .string y.vs, .slice PA y.l.length ka] rfl) (exC_one _ _ _) (by omega) HDa.out.size ?_
            intro A' c' w' ho' hgb hor
            have HSf := Lib.hid (HDa.out.putS HCS.out HPA.out ho' hgb hor)
            have hbk := HDa.out.blk.grown hgb (fun e => by have := own_base HOS.out g e; have := HS9.out.low; omega)
            have hkb : w'.heap[ba]? = w2.heap[ba]? := (hgb.block ba (Nat.lt_of_lt_of_le hbl HDa.out.size) (fun e => by have := own_base HOS.out ba e.symm; omega)).trans hSa.2
            refine hK.out _ _ ⟨hbk, hkb⟩ ?_
            clear hK K
            refine last_take 8 (v := ?_) rfl (by kernel_rfl) (by kernel_rfl) (by kernel_rfl) (by kernel_rfl) (fun _ _ _ h => h) (by rfl) ?_ ⟨hbk, hkb⟩ ?_
            rotate_left
            · (intro W hW; go_simp; with_reducible rfl)
            refine last_norm (a' := ?_) ?_ ?_
            rotate_left
            · (go_simp; with_reducible rfl)
            have z2 := hbk.thaw 3
            have zc := hbk.cell 3
            have zl := hbk.lt
            simp at zc
            refine last_last (by kernel_rfl) (by kernel_rfl) rfl (by rfl) (fun K hK => ?_)
            go_simp
            go_wp2_with fail
            refine hK.out _ _ ?_
            clear hK K hbk hkb hSa hS0 ho' hgb hor
            go_wp2
            exact ⟨⟨j + 1, _, _, _, by omega, by go_num, by rw [HK.out.1, HK.out.2.1, HK.out.2.2]; exact HSf.out⟩, by simp only [intOf]; omega⟩)
        · have HK := Lib.hid (HN3'.out (by
            rcases hus with h | ⟨v, rfl, hv⟩
            · exact decide_eq_false fun e => h (by rw [e]; rfl)
            · exact decide_eq_false fun e => hv (by injection e)))
          clear HN2' HN3'
          obtain ⟨AS, cS, rfl, css, hcs, hoS⟩ := HS9.out.bins.each 1 vR rs rfl rfl
          have HOS := Lib.hid hoS
          have HCS := Lib.hid hcs
          clear hoS hcs
          rcases hus with hul | ⟨v, rfl, hv⟩
          · have hul' : ((us.length : Int) == 1) = false := by rw [beq_eq_false_iff_ne]; omega
            generalize us.length = un at *
            rcases hcase with rfl | ⟨rfl, hkt⟩
            all_goals (
              go_upto_region 12 with fail
              have HD9 := Lib.hid (HS9.out.more (Grew.refl W9).drew)
              have hS0 : Blok W9.drew g 72 #[.int .i64 t, .int .i64 f.join, vK, vS, (.slice AS rs.length cS)] ∧ W9.drew.heap[ba]? = w2.heap[ba]? := ⟨HD9.out.blk, HD9.out.kept ba hbl hbn⟩
              refine wp_region_last (fun W => Blok W g 72 #[.int .i64 t, .int .i64 f.join, vK, vS, (.slice AS rs.length cS)] ∧ W.heap[ba]? = w2.heap[ba]?) 9 rfl (by kernel_rfl) ?_
              refine last_take 0 (v := ?_) rfl (by kernel_rfl) (by kernel_rfl) (by kernel_rfl) (by kernel_rfl) (fun _ _ _ h => h) (by rfl) ?_ hS0 ?_
              rotate_left
              · (intro W hW; go_simp; with_reducible rfl)
              refine last_norm (a' := ?_) ?_ ?_
              rotate_left
              · (go_simp; with_reducible rfl)
              refine last_take 1 (v := ?_) rfl (by kernel_rfl) (by kernel_rfl) (by kernel_rfl) (by kernel_rfl) (fun _ _ _ h => h) (by rfl) ?_ hS0 ?_
              rotate_left
              · (intro W hW; have q := hW.1.cell 4; have ql := hW.1.lt; simp at q; go_simp; with_reducible rfl)
              refine last_norm (a' := ?_) ?_ ?_
              rotate_left
              · (go_simp; with_reducible rfl)
              refine last_take 2 (v := ?_) rfl (by kernel_rfl) (by kernel_rfl) (by kernel_rfl) (by kernel_rfl) (fun _ _ _ h => h) (by rfl) ?_ hS0 ?_
              rotate_left
              · (intro W hW; go_simp; with_reducible rfl)
              refine last_take 3 (v := ?_) rfl (by kernel_rfl) (by kernel_rfl) (by kernel_rfl) (by kernel_rfl) (fun _ _ _ h => h) (by rfl) ?_ hS0 ?_
              rotate_left
              · (intro W hW; go_simp; with_reducible rfl)
              refine last_take 4 (v := ?_) rfl (by kernel_rfl) (by kernel_rfl) (by kernel_rfl) (by kernel_rfl) (fun _ _ _ h => h) (by rfl) ?_ hS0 ?_
              rotate_left
              · (intro W hW; go_simp; with_reducible rfl)
              refine last_norm (a' := ?_) ?_ ?_
              rotate_left
              · (go_simp; with_reducible rfl)
              refine last_take 5 (v := ?_) rfl (by kernel_rfl) (by kernel_rfl) (by kernel_rfl) (by kernel_rfl) (fun _ _ _ h => h) (by rfl) ?_ hS0 ?_
              rotate_left
              · (intro W hW; obtain ⟨p0, a0, a1, a2, a3, a4, a5, a6, a7, a8⟩ := HA9.out.kept hW.2; go_simp; with_reducible rfl)
              refine last_norm (a' := ?_) ?_ ?_
              rotate_left
              · (go_simp; with_reducible rfl)
              refine last_call 6 (by kernel_rfl) (by kernel_rfl) rfl (by rfl) (fun K hK => ?_)
              go_simp
              go_wp2_with fail
              have HDa := Lib.hid (HD9.out.more ((Grew.refl W9.drew).alloc (.cells #[.int .i64 y.op, .string y.tab, .string y.name, .int .i64 y.t, .int .i64 y.c, .int .i64 y.vk, .int .i64 y.vi, .string y.vs, .slice PA y.l.length ka] 27)))
              have hSa : Blok (W9.drew.alloc (.cells #[.int .i64 y.op, .string y.tab, .string y.name, .int .i64 y.t, .int .i64 y.c, .int .i64 y.vk, .int .i64 y.vi, .string y.vs, .slice PA y.l.length ka] 27)) g 72 #[.int .i64 t, .int .i64 f.join, vK, vS, (.slice AS rs.length cS)] ∧ (W9.drew.alloc (.cells #[.int .i64 y.op, .string y.tab, .string y.name, .int .i64 y.t, .int .i64 y.c, .int .i64 y.vk, .int .i64 y.vi, .string y.vs, .slice PA y.l.length ka] 27)).heap[ba]? = w2.heap[ba]? := ⟨HDa.out.blk, HDa.out.kept ba hbl hbn⟩
              refine hK.out _ _ hSa ?_
              clear hK K
              refine last_call 7 (by kernel_rfl) (by kernel_rfl) rfl (by rfl) (fun K hK => ?_)
              refine wp_appC (.tmp 70) (.tmp 75) 22 27 9 rfl w2.heap.size (.agg #[.int .i64 0, .string ⟨#[]⟩, .string ⟨#[]⟩, .int .i64 0, .int .i64 0, .int .i64 0, .int .i64 0, .string ⟨#[]⟩, .slice none 0 0]) 112 Try.underlying22 infoE rfl (by decide) (by decide) _ rs.length _ rfl (own_alloc (own_grewE HOS.out (Grew.refl W9).drew) _) _ 1 1 (exC y PA ka) rfl rfl (row_new W9.drew _ _ #[.int .i64 y.op, .string y.tab, .string y.name, .int .i64 y.t, .int .i64 y.c, .int .i64 y.vk, .int .i64 y.vi, .string y.vs, .slice PA y.l.length ka] rfl) (exC_one _ _ _) (by omega) HDa.out.size ?_
              intro A' c' w' ho' hgb hor
              have HSf := Lib.hid (HDa.out.putR HCS.out HPA.out ho' hgb hor)
              have hbk := HDa.out.blk.grown hgb (fun e => by have := own_base HOS.out g e; have := HS9.out.low; omega)
              have hkb : w'.heap[ba]? = w2.heap[ba]? := (hgb.block ba (Nat.lt_of_lt_of_le hbl HDa.out.size) (fun e => by have := own_base HOS.out ba e.symm; omega)).trans hSa.2
              refine hK.out _ _ ⟨hbk, hkb⟩ ?_
              clear hK K
              refine last_take 8 (v := ?_) rfl (by kernel_rfl) (by kernel_rfl) (by kernel_rfl) (by kernel_rfl) (fun _ _ _ h => h) (by rfl) ?_ ⟨hbk, hkb⟩ ?_
              rotate_left
              · (intro W hW; go_simp; with_reducible rfl)
              refine last_norm (a' := ?_) ?_ ?_
              rotate_left
              · (go_simp; with_reducible rfl)
              have z2 := hbk.thaw 4
              have zc := hbk.cell 4
              have zl := hbk.lt
              simp at zc
              refine last_last (by kernel_rfl) (by kernel_rfl) rfl (by rfl) (fun K hK => ?_)
              go_simp
              go_wp2_with fail
              refine hK.out _ _ ?_
              clear hK K hbk hkb hSa hS0 ho' hgb hor
              go_wp2
              exact ⟨⟨j + 1, _, _, _, by omega, by go_num, by rw [HK.out.1, HK.out.2.1, HK.out.2.2]; exact HSf.out⟩, by simp only [intOf]; omega⟩)
          · obtain ⟨bu, ou, rfl, hbu, hcu⟩ := rowI_at HR9.out (j := 0) (by simp)
            simp only [List.getElem_cons_zero, Nat.add_zero] at hcu
            have hvt : (v == t) = false := by simpa using hv
            simp only [List.length_cons, List.length_nil, Nat.zero_add] at *
            rcases hcase with rfl | ⟨rfl, hkt⟩
            all_goals (
              go_upto_region 12 with fail
              have HD9 := Lib.hid (HS9.out.more (Grew.refl W9).drew)
              have hS0 : Blok W9.drew g 72 #[.int .i64 t, .int .i64 f.join, vK, vS, (.slice AS rs.length cS)] ∧ W9.drew.heap[ba]? = w2.heap[ba]? := ⟨HD9.out.blk, HD9.out.kept ba hbl hbn⟩
              refine wp_region_last (fun W => Blok W g 72 #[.int .i64 t, .int .i64 f.join, vK, vS, (.slice AS rs.length cS)] ∧ W.heap[ba]? = w2.heap[ba]?) 9 rfl (by kernel_rfl) ?_
              refine last_take 0 (v := ?_) rfl (by kernel_rfl) (by kernel_rfl) (by kernel_rfl) (by kernel_rfl) (fun _ _ _ h => h) (by rfl) ?_ hS0 ?_
              rotate_left
              · (intro W hW; go_simp; with_reducible rfl)
              refine last_norm (a' := ?_) ?_ ?_
              rotate_left
              · (go_simp; with_reducible rfl)
              refine last_take 1 (v := ?_) rfl (by kernel_rfl) (by kernel_rfl) (by kernel_rfl) (by kernel_rfl) (fun _ _ _ h => h) (by rfl) ?_ hS0 ?_
              rotate_left
              · (intro W hW; have q := hW.1.cell 4; have ql := hW.1.lt; simp at q; go_simp; with_reducible rfl)
              refine last_norm (a' := ?_) ?_ ?_
              rotate_left
              · (go_simp; with_reducible rfl)
              refine last_take 2 (v := ?_) rfl (by kernel_rfl) (by kernel_rfl) (by kernel_rfl) (by kernel_rfl) (fun _ _ _ h => h) (by rfl) ?_ hS0 ?_
              rotate_left
              · (intro W hW; go_simp; with_reducible rfl)
              refine last_take 3 (v := ?_) rfl (by kernel_rfl) (by kernel_rfl) (by kernel_rfl) (by kernel_rfl) (fun _ _ _ h => h) (by rfl) ?_ hS0 ?_
              rotate_left
              · (intro W hW; go_simp; with_reducible rfl)
              refine last_take 4 (v := ?_) rfl (by kernel_rfl) (by kernel_rfl) (by kernel_rfl) (by kernel_rfl) (fun _ _ _ h => h) (by rfl) ?_ hS0 ?_
              rotate_left
              · (intro W hW; go_simp; with_reducible rfl)
              refine last_norm (a' := ?_) ?_ ?_
              rotate_left
              · (go_simp; with_reducible rfl)
              refine last_take 5 (v := ?_) rfl (by kernel_rfl) (by kernel_rfl) (by kernel_rfl) (by kernel_rfl) (fun _ _ _ h => h) (by rfl) ?_ hS0 ?_
              rotate_left
              · (intro W hW; obtain ⟨p0, a0, a1, a2, a3, a4, a5, a6, a7, a8⟩ := HA9.out.kept hW.2; go_simp; with_reducible rfl)
              refine last_norm (a' := ?_) ?_ ?_
              rotate_left
              · (go_simp; with_reducible rfl)
              refine last_call 6 (by kernel_rfl) (by kernel_rfl) rfl (by rfl) (fun K hK => ?_)
              go_simp
              go_wp2_with fail
              have HDa := Lib.hid (HD9.out.more ((Grew.refl W9.drew).alloc (.cells #[.int .i64 y.op, .string y.tab, .string y.name, .int .i64 y.t, .int .i64 y.c, .int .i64 y.vk, .int .i64 y.vi, .string y.vs, .slice PA y.l.length ka] 27)))
              have hSa : Blok (W9.drew.alloc (.cells #[.int .i64 y.op, .string y.tab, .string y.name, .int .i64 y.t, .int .i64 y.c, .int .i64 y.vk, .int .i64 y.vi, .string y.vs, .slice PA y.l.length ka] 27)) g 72 #[.int .i64 t, .int .i64 f.join, vK, vS, (.slice AS rs.length cS)] ∧ (W9.drew.alloc (.cells #[.int .i64 y.op, .string y.tab, .string y.name, .int .i64 y.t, .int .i64 y.c, .int .i64 y.vk, .int .i64 y.vi, .string y.vs, .slice PA y.l.length ka] 27)).heap[ba]? = w2.heap[ba]? := ⟨HDa.out.blk, HDa.out.kept ba hbl hbn⟩
              refine hK.out _ _ hSa ?_
              clear hK K
              refine last_call 7 (by kernel_rfl) (by kernel_rfl) rfl (by rfl) (fun K hK => ?_)
              refine wp_appC (.tmp 70) (.tmp 75) 22 27 9 rfl w2.heap.size (.agg #[.int .i64 0, .string ⟨#[]⟩, .string ⟨#[]⟩, .int .i64 0, .int .i64 0, .int .i64 0, .int .i64 0, .string ⟨#[]⟩, .slice none 0 0]) 112 Try.underlying22 infoE rfl (by decide) (by decide) _ rs.length _ rfl (own_alloc (own_grewE HOS.out (Grew.refl W9).drew) _) _ 1 1 (exC y PA ka) rfl rfl (row_new W9.drew _ _ #[.int .i64 y.op, .string y.tab, .string y.name, .int .i64 y.t, .int .i64 y.c, .int .i64 y.vk, .int .i64 y.vi, .string y.vs, .slice PA y.l.length ka] rfl) (exC_one _ _ _) (by omega) HDa.out.size ?_
              intro A' c' w' ho' hgb hor
              have HSf := Lib.hid (HDa.out.putR HCS.out HPA.out ho' hgb hor)
              have hbk := HDa.out.blk.grown hgb (fun e => by have := own_base HOS.out g e; have := HS9.out.low; omega)
              have hkb : w'.heap[ba]? = w2.heap[ba]? := (hgb.block ba (Nat.lt_of_lt_of_le hbl HDa.out.size) (fun e => by have := own_base HOS.out ba e.symm; omega)).trans hSa.2
              refine hK.out _ _ ⟨hbk, hkb⟩ ?_
              clear hK K
              refine last_take 8 (v := ?_) rfl (by kernel_rfl) (by kernel_rfl) (by kernel_rfl) (by kernel_rfl) (fun _ _ _ h => h) (by rfl) ?_ ⟨hbk, hkb⟩ ?_
              rotate_left
              · (intro W hW; go_simp; with_reducible rfl)
              refine last_norm (a' := ?_) ?_ ?_
              rotate_left
              · (go_simp; with_reducible rfl)
              have z2 := hbk.thaw 4
              have zc := hbk.cell 4
              have zl := hbk.lt
              simp at zc
              refine last_last (by kernel_rfl) (by kernel_rfl) rfl (by rfl) (fun K hK => ?_)
              go_simp
              go_wp2_with fail
              refine hK.out _ _ ?_
              clear hK K hbk hkb hSa hS0 ho' hgb hor
              go_wp2
              exact ⟨⟨j + 1, _, _, _, by omega, by go_num, by rw [HK.out.1, HK.out.2.1, HK.out.2.2]; exact HSf.out⟩, by simp only [intOf]; omega⟩)
    · obtain rfl : j = l.length := by omega
      rw [List.take_length] at HS
      obtain ⟨AK, cK, rfl, _⟩ := HS.out.keys
      obtain ⟨AS, cS, rfl, _⟩ := HS.out.bins.each 0 vS _ rfl rfl
      obtain ⟨AR, cR, rfl, _⟩ := HS.out.bins.each 1 vR _ rfl rfl
      have hb4 : Blok wr b4 72 #[.int .i64 0, .int .i64 0, .slice none 0 0, .slice none 0 0, .slice none 0 0] := (HS.out.kept b4 HB4.out.lt hne).trans HB4.out
      have hgb := HS.out.blk
      have hb4l : b4 < w2.heap.size := HB4.out.lt
      have gl : g < wr.heap.size := hgb.lt
      have g0 := hgb.cell 0
      have g1 := hgb.cell 1
      have g2 := hgb.cell 2
      have g3 := hgb.cell 3
      have g4 := hgb.cell 4
      have bl : b4 < wr.heap.size := hb4.lt
      have z0 := hb4.thaw 0
      have z1 := hb4.thaw 1
      have z2 := hb4.thaw 2
      have z3 := hb4.thaw 3
      have z4 := hb4.thaw 4
      have y0 := hb4.cell 0
      have y1 := hb4.cell 1
      have y2 := hb4.cell 2
      have y3 := hb4.cell 3
      have y4 := hb4.cell 4
      simp at g0 g1 g2 g3 g4 y0 y1 y2 y3 y4
      have HBF := Lib.hid (((((hb4.set 0 (.int .i64 t)).set 1 (.int .i64 f.join)).set 2 (.slice AK (ltK t l).length cK)).set 3 (.slice AS (ltS t l).length cS)).set 4 (.slice AR (ltR t l).length cR))
      have HE : Hid (LateF r w fin (.returned (.agg #[.int .i64 t, .int .i64 f.join, (.slice AK (ltK t l).length cK), (.slice AS (ltS t l).length cS), (.slice AR (ltR t l).length cR)])) (((((wr.setCell ⟨b4, 0, none⟩ (.int .i64 t)).setCell ⟨b4, 1, none⟩ (.int .i64 f.join)).setCell ⟨b4, 2, none⟩ (.slice AK (ltK t l).length cK)).setCell ⟨b4, 3, none⟩ (.slice AS (ltS t l).length cS)).setCell ⟨b4, 4, none⟩ (.slice AR (ltR t l).length cR))) := Lib.hid (by
        rw [HF.out]
        refine HS.out.late (fun i hi _ => ?_) (((((HS.out.grew.setCell hu4 _).setCell hu4 _).setCell hu4 _).setCell hu4 _).setCell hu4 _)
        have hn : i ≠ b4 := by omega
        rw [heap_set _ _ hn, heap_set _ _ hn, heap_set _ _ hn, heap_set _ _ hn, heap_set _ _ hn])
      clear HS HS0 HB4 HX hX HF hgb hb4
      go_wp2
      have q0 := HBF.out.cell 0
      have q1 := HBF.out.cell 1
      have q2 := HBF.out.cell 2
      have q3 := HBF.out.cell 3
      have q4 := HBF.out.cell 4
      simp at q0 q1 q2 q3 q4
      refine bodyPost_ret (v := .agg #[.int .i64 t, .int .i64 f.join, (.slice AK (ltK t l).length cK), (.slice AS (ltS t l).length cS), (.slice AR (ltR t l).length cR)]) ?_ ?_ ?_
      · simp [results, Try.results28, go_sem, q0, q1, q2, q3, q4]
      · rfl
      · exact HE.out
end Go.Proofs.Ytoaciliojdaoaaa

namespace Go.Proofs.Ytoaciliojdaoaaa
open Go.RowKit

/-- What of the core's conditions goes where. -/
def nR (core : Int) (l : List Ex) : List Ex := l.filter fun x => decide (whereI x core = 0)
def nW (core : Int) (l : List Ex) : List Ex := l.filter fun x => decide (whereI x core = 1)
def nE (core : Int) (l : List Ex) : List Ed := (l.filter fun x => decide (whereI x core = 3)).map fun x => (edgeP x).1
def nT (core : Int) (t : Int) (l : List Ex) : List Ex := l.filter fun x => decide (whereI x core = 2) && onlyT t x
def nS (core : Nat) (l : List Ex) : List (List Ex) := (List.range core).map fun t : Nat => nT core t l
/-- All conditions, in a block of its own, with their lists in rows of their own. -/
structure Nst (pr : Nat → Prop) (u v w : World) (base g : Nat) (core : Int) (sc : List (List Ex)) (es : List Ed) (rs wh : List Ex) (A : Option Addr) (k : Nat) (vs : List Value) (vE vR vL vW : Value) : Prop where
  blk : Blok w g 37 #[.int .i64 core, .slice A vs.length k, vE, vR, vL, vW]
  outer : w.ownsRow base 22 1 (.slice A vs.length k) vs.length vs
  bins : Bins u w base (vR :: vW :: vs) (rs :: wh :: sc)
  edges : EdSl w base vE es
  grew : Grew u w
  size : base ≤ w.heap.size
  low : u.heap.size ≤ g ∧ g < base
  kept : ∀ i, i < base → i ≠ g → w.heap[i]? = v.heap[i]?
  safe : ∀ i, pr i → i ≠ g ∧ i < w.heap.size ∧ w.heap[i]? = v.heap[i]?
  apart : ∀ x, x ∈ (.slice A vs.length k) :: vE :: vR :: vW :: vs → ∀ i, x.ownBlock = some i → ¬ pr i
section
variable {pr : Nat → Prop} {u v w w' : World} {base g : Nat} {core : Int} {sc : List (List Ex)} {es : List Ed} {rs wh : List Ex} {A : Option Addr} {k : Nat} {vs : List Value} {vE vR vL vW : Value}
theorem Nst.more (h : Nst pr u v w base g core sc es rs wh A k vs vE vR vL vW) (q : Grew w w') : Nst pr u v w' base g core sc es rs wh A k vs vE vR vL vW := by
  obtain ⟨B, c, e, ho⟩ := h.edges
  exact ⟨h.blk.grew q, own_grewE h.outer q, h.bins.grew q, ⟨B, c, e, own_grewE ho q⟩, h.grew.trans q, Nat.le_trans h.size q.size, h.low, fun i hi hn => (heap_grew q (Nat.lt_of_lt_of_le hi h.size)).trans (h.kept i hi hn), fun i hi => ⟨(h.safe i hi).1, Nat.lt_of_lt_of_le (h.safe i hi).2.1 q.size, (heap_grew q (h.safe i hi).2.1).trans (h.safe i hi).2.2⟩, h.apart⟩
theorem Nst.sizes (h : Nst pr u v w base g core sc es rs wh A k vs vE vR vL vW) : vs.length = sc.length := by
  have := h.bins.len
  simpa using this
theorem safe_next (h : Nst pr u v w base g core sc es rs wh A k vs vE vR vL vW) {row : Option Nat} (hgb : w.grownBy w' row) (hrow : ∀ i, row = some i → ¬ pr i) {a : Addr} (hb : ¬ pr a.block) (x : Value) :
    ∀ i, pr i → i ≠ g ∧ i < (w'.setCell a x).heap.size ∧ (w'.setCell a x).heap[i]? = v.heap[i]? := fun i hi => by
  obtain ⟨h1, h2, h3⟩ := h.safe i hi
  refine ⟨h1, by rw [World.size_setCell]; exact Nat.lt_of_lt_of_le h2 hgb.size, ?_⟩
  rw [heap_set _ _ (fun e => hb (e ▸ hi)), hgb.block i h2 (fun e => hrow i e.symm hi)]
  exact h3
theorem apart_new (h : Nst pr u v w base g core sc es rs wh A k vs vE vR vL vW) {x y : Value} (hx : ∀ i, x.ownBlock = some i → ¬ pr i) (hor : y.ownBlock = x.ownBlock ∨ y.ownBlock = some w.heap.size) : ∀ i, y.ownBlock = some i → ¬ pr i := fun i hi hp => by
  rcases hor with e | e
  · exact hx i (by rw [← e]; exact hi) hp
  · rw [e] at hi
    cases hi
    exact Nat.lt_irrefl _ (h.safe _ hp).2.1
theorem g_apart (h : Nst pr u v w base g core sc es rs wh A k vs vE vR vL vW) : ¬ pr g := fun hp => (h.safe g hp).1 rfl
/-- What stays when a row of one's own grows, and then a cell of the block is written. -/
theorem kept_next (h : Nst pr u v w base g core sc es rs wh A k vs vE vR vL vW) {row : Option Nat} (hgb : w.grownBy w' row) (hb : ∀ i, row = some i → base ≤ i) (j : Nat) (x : Value) :
    Grew u (w'.setCell ⟨g, j, none⟩ x) ∧ base ≤ (w'.setCell ⟨g, j, none⟩ x).heap.size ∧ ∀ i, i < base → i ≠ g → (w'.setCell ⟨g, j, none⟩ x).heap[i]? = v.heap[i]? := by
  obtain ⟨l1, l2⟩ := h.low
  refine ⟨(h.grew.grown hgb fun b hb' => by have := hb b hb'; omega).setCell l1 _, by rw [World.size_setCell]; exact Nat.le_trans h.size hgb.size, fun i hi hn => ?_⟩
  rw [heap_set _ _ hn, hgb.block i (Nat.lt_of_lt_of_le hi h.size) (fun e => by have := hb i e.symm; omega)]
  exact h.kept i hi hn
theorem Nst.putR (h : Nst pr u v w base g core sc es rs wh A k vs vE vR vL vW) {css : List (List Value)} (hc : ListR (ExR (PRow u)) 9 rs css) {x : Ex} {PA : Option Addr} {ka : Nat} (hx : ExsR (PRow u) PA x.l) {A' : Option Addr} {c' : Nat}
    (ho : w'.ownsRow base 27 9 (.slice A' (rs.length + 1) c') (rs.length + 1) (css.flatten ++ exC x PA ka)) (hgb : w.grownBy w' vR.ownBlock) (hor : (Value.slice A' (rs.length + 1) c').ownBlock = vR.ownBlock ∨ (Value.slice A' (rs.length + 1) c').ownBlock = some w.heap.size) :
    Nst pr u v (w'.setCell ⟨g, 3, none⟩ (.slice A' (rs.length + 1) c')) base g core sc es (rs ++ [x]) wh A k vs vE (.slice A' (rs.length + 1) c') vL vW := by
  obtain ⟨css0, _, hoR⟩ := (h.bins.each 0 vR rs rfl rfl).own
  have hb := own_base hoR
  have l2 := h.low.2
  obtain ⟨B, c, e, hk⟩ := h.edges
  have hbs := h.bins.put (j := 0) rfl rfl (ExSl.snoc hc hx ho) hgb hor
  obtain ⟨n1, n2, n3⟩ := kept_next h hgb hb 3 (.slice A' (rs.length + 1) c')
  exact ⟨(h.blk.grown hgb fun e => by have := hb g e; omega).set 3 _, ownsRow_setCell_below (own_grown h.outer hgb fun b hb' e => type_apart h.outer hoR (by decide) b hb' e.symm) l2 _, hbs.far l2 _, ⟨B, c, e, ownsRow_setCell_below (own_grown hk hgb fun b hb' e => type_apart hk hoR (by decide) b hb' e.symm) l2 _⟩, n1, n2, h.low, n3, safe_next h hgb (h.apart vR (by simp)) (g_apart h) _, fun y hy => by
    simp only [List.mem_cons] at hy
    rcases hy with rfl | rfl | rfl | rfl | hy
    · exact h.apart _ (by simp)
    · exact h.apart _ (by simp)
    · exact apart_new h (h.apart vR (by simp)) hor
    · exact h.apart _ (by simp)
    · exact h.apart _ (by simp [hy])⟩
theorem Nst.putW (h : Nst pr u v w base g core sc es rs wh A k vs vE vR vL vW) {css : List (List Value)} (hc : ListR (ExR (PRow u)) 9 wh css) {x : Ex} {PA : Option Addr} {ka : Nat} (hx : ExsR (PRow u) PA x.l) {A' : Option Addr} {c' : Nat}
    (ho : w'.ownsRow base 27 9 (.slice A' (wh.length + 1) c') (wh.length + 1) (css.flatten ++ exC x PA ka)) (hgb : w.grownBy w' vW.ownBlock) (hor : (Value.slice A' (wh.length + 1) c').ownBlock = vW.ownBlock ∨ (Value.slice A' (wh.length + 1) c').ownBlock = some w.heap.size) :
    Nst pr u v (w'.setCell ⟨g, 5, none⟩ (.slice A' (wh.length + 1) c')) base g core sc es rs (wh ++ [x]) A k vs vE vR vL (.slice A' (wh.length + 1) c') := by
  obtain ⟨css0, _, hoR⟩ := (h.bins.each 1 vW wh rfl rfl).own
  have hb := own_base hoR
  have l2 := h.low.2
  obtain ⟨B, c, e, hk⟩ := h.edges
  have hbs := h.bins.put (j := 1) rfl rfl (ExSl.snoc hc hx ho) hgb hor
  obtain ⟨n1, n2, n3⟩ := kept_next h hgb hb 5 (.slice A' (wh.length + 1) c')
  exact ⟨(h.blk.grown hgb fun e => by have := hb g e; omega).set 5 _, ownsRow_setCell_below (own_grown h.outer hgb fun b hb' e => type_apart h.outer hoR (by decide) b hb' e.symm) l2 _, hbs.far l2 _, ⟨B, c, e, ownsRow_setCell_below (own_grown hk hgb fun b hb' e => type_apart hk hoR (by decide) b hb' e.symm) l2 _⟩, n1, n2, h.low, n3, safe_next h hgb (h.apart vW (by simp)) (g_apart h) _, fun y hy => by
    simp only [List.mem_cons] at hy
    rcases hy with rfl | rfl | rfl | rfl | hy
    · exact h.apart _ (by simp)
    · exact h.apart _ (by simp)
    · exact h.apart _ (by simp)
    · exact apart_new h (h.apart vW (by simp)) hor
    · exact h.apart _ (by simp [hy])⟩
theorem Nst.putE (h : Nst pr u v w base g core sc es rs wh A k vs vE vR vL vW) {e : Ed} {A' : Option Addr} {c' : Nat}
    (ho : w'.ownsRow base 68 4 (.slice A' (es.length + 1) c') (es.length + 1) (edsC es ++ edC' e)) (hgb : w.grownBy w' vE.ownBlock) (hor : (Value.slice A' (es.length + 1) c').ownBlock = vE.ownBlock ∨ (Value.slice A' (es.length + 1) c').ownBlock = some w.heap.size) :
    Nst pr u v (w'.setCell ⟨g, 2, none⟩ (.slice A' (es.length + 1) c')) base g core sc (es ++ [e]) rs wh A k vs (.slice A' (es.length + 1) c') vR vL vW := by
  obtain ⟨B, c, rfl, hk⟩ := h.edges
  have hb := own_base hk
  have l2 := h.low.2
  have el : (es ++ [e]).length = es.length + 1 := by simp
  rw [edsC_snoc] at ho
  obtain ⟨n1, n2, n3⟩ := kept_next h hgb hb 2 (.slice A' (es.length + 1) c')
  exact ⟨(h.blk.grown hgb fun e => by have := hb g e; omega).set 2 _, ownsRow_setCell_below (own_grown h.outer hgb fun b hb' e => type_apart h.outer hk (by decide) b hb' e.symm) l2 _, (h.bins.other hk (by decide) hgb).far l2 _, ⟨A', c', by rw [el], by rw [el]; exact ownsRow_setCell_below ho l2 _⟩, n1, n2, h.low, n3, safe_next h hgb (h.apart (.slice B es.length c) (by simp)) (g_apart h) _, fun y hy => by
    simp only [List.mem_cons] at hy
    rcases hy with rfl | rfl | rfl | rfl | hy
    · exact h.apart _ (by simp)
    · exact apart_new h (h.apart (.slice B es.length c) (by simp)) hor
    · exact h.apart _ (by simp)
    · exact h.apart _ (by simp)
    · exact h.apart _ (by simp [hy])⟩
/-- A row of another type than those of these lists grows; its slice is put into the block. -/
theorem Nst.putL (h : Nst pr u v w base g core sc es rs wh A k vs vE vR vL vW) {size n : Nat} {xs : List Value} {v0 : Value} (hk : w.ownsRow base 72 size v0 n xs) (hgb : w.grownBy w' v0.ownBlock) (hv0 : ∀ i, v0.ownBlock = some i → ¬ pr i) (x : Value) :
    Nst pr u v (w'.setCell ⟨g, 4, none⟩ x) base g core sc es rs wh A k vs vE vR x vW := by
  have hb := own_base hk
  have l2 := h.low.2
  obtain ⟨B, c, e, he⟩ := h.edges
  obtain ⟨n1, n2, n3⟩ := kept_next h hgb hb 4 x
  exact ⟨(h.blk.grown hgb fun e => by have := hb g e; omega).set 4 _, ownsRow_setCell_below (own_grown h.outer hgb fun b hb' e => type_apart h.outer hk (by decide) b hb' e.symm) l2 _, (h.bins.other hk (by decide) hgb).far l2 _, ⟨B, c, e, ownsRow_setCell_below (own_grown he hgb fun b hb' e => type_apart he hk (by decide) b hb' e.symm) l2 _⟩, n1, n2, h.low, n3, safe_next h hgb hv0 (g_apart h) _, h.apart⟩
/-- One of the tables' rows grows; its slice is put where it belongs. -/
theorem Nst.putS (h : Nst pr u v w base g core sc es rs wh A k vs vE vR vL vW) {q : Nat} {b0 : Nat} (hA : A = some ⟨b0, 0, none⟩) {vq : Value} {lq : List Ex} (hq : vs[q]? = some vq) (hl : sc[q]? = some lq) {v' : Value} {l' : List Ex}
    (ho : ExSl u w' base v' l') (hgb : w.grownBy w' vq.ownBlock) (hor : v'.ownBlock = vq.ownBlock ∨ v'.ownBlock = some w.heap.size) :
    Nst pr u v (w'.setCell ⟨b0, q, none⟩ v') base g core (sc.set q l') es rs wh A k (vs.set q v') vE vR vL vW := by
  subst hA
  obtain ⟨css0, _, hoR⟩ := (h.bins.each (q + 2) vq lq (by simpa using hq) (by simpa using hl)).own
  have hb := own_base hoR
  obtain ⟨l1, l2⟩ := h.low
  have hb0 : base ≤ b0 := own_base h.outer b0 rfl
  obtain ⟨B, c, e, hk⟩ := h.edges
  have hbs := h.bins.put (j := q + 2) (by simpa using hq) (by simpa using hl) ho hgb hor
  have hout := own_grown h.outer hgb fun b hb' e => type_apart h.outer hoR (by decide) b hb' e.symm
  have hk' := own_grown hk hgb fun b hb' e => type_apart hk hoR (by decide) b hb' e.symm
  have hlen : (vs.set q v').length = vs.length := by simp
  refine ⟨?_, ?_, ?_, ⟨B, c, e, own_aside2 hk' (fun b hb' e => type_apart hk' hout (by decide) b hb' (by rw [e]; rfl)) _⟩, (h.grew.grown hgb fun b hb' => by have := hb b hb'; omega).setCell (by show _ ≤ b0; omega) _, by rw [World.size_setCell]; exact Nat.le_trans h.size hgb.size, h.low, fun i hi hn => ?_, safe_next h hgb (h.apart vq (by simp [List.mem_of_getElem? hq])) (h.apart (.slice (some ⟨b0, 0, none⟩) vs.length k) (by simp) b0 rfl) _, fun y hy => ?_⟩
  · rw [hlen]
    exact (h.blk.grown hgb fun e => by have := hb g e; omega).far (by show g ≠ b0; omega) _
  · rw [hlen]
    exact (hout.stored q v').1
  · have := hbs.otherSet hout (by decide) (p := ⟨b0, q, none⟩) rfl v'
    simpa using this
  · rw [heap_set _ _ (by show i ≠ b0; omega), hgb.block i (Nat.lt_of_lt_of_le hi h.size) (fun e => by have := hb i e.symm; omega)]
    exact h.kept i hi hn
  · simp only [List.mem_cons] at hy
    rcases hy with rfl | rfl | rfl | rfl | hy
    · rw [hlen]; exact h.apart _ (by simp)
    · exact h.apart _ (by simp)
    · exact h.apart _ (by simp)
    · exact h.apart _ (by simp)
    · rcases List.mem_or_eq_of_mem_set hy with hy | rfl
      · exact h.apart _ (by simp [hy])
      · exact apart_new h (h.apart vq (by simp [List.mem_of_getElem? hq])) hor
end
theorem nR_snoc (core : Int) (l : List Ex) (x : Ex) : nR core (l ++ [x]) = nR core l ++ if whereI x core = 0 then [x] else [] := by
  unfold nR
  rw [List.filter_append]
  by_cases h : whereI x core = 0 <;> simp [h]
theorem nW_snoc (core : Int) (l : List Ex) (x : Ex) : nW core (l ++ [x]) = nW core l ++ if whereI x core = 1 then [x] else [] := by
  unfold nW
  rw [List.filter_append]
  by_cases h : whereI x core = 1 <;> simp [h]
theorem nE_snoc (core : Int) (l : List Ex) (x : Ex) : nE core (l ++ [x]) = nE core l ++ if whereI x core = 3 then [(edgeP x).1] else [] := by
  unfold nE
  rw [List.filter_append, List.map_append]
  by_cases h : whereI x core = 3 <;> simp [h]
theorem nT_snoc (core t : Int) (l : List Ex) (x : Ex) : nT core t (l ++ [x]) = nT core t l ++ if whereI x core = 2 ∧ useX x = [t] then [x] else [] := by
  unfold nT onlyT
  rw [List.filter_append]
  by_cases h : whereI x core = 2 <;> by_cases h' : useX x = [t] <;> simp [h, h']
theorem nS_len (core : Nat) (l : List Ex) : (nS core l).length = core := by simp [nS]
theorem nS_at (core : Nat) (l : List Ex) {t : Nat} (h : t < core) : (nS core l)[t]? = some (nT core t l) := by simp [nS, h]
theorem nS_other (core : Nat) (l : List Ex) {x : Ex} (h : ¬ whereI x core = 2) : nS core (l ++ [x]) = nS core l := by
  unfold nS
  refine List.map_congr_left fun t _ => ?_
  rw [nT_snoc, if_neg (fun e => h e.1), List.append_nil]
theorem nS_scan (core : Nat) (l : List Ex) {x : Ex} {t : Nat} (h : whereI x core = 2) (hu : useX x = [(t : Int)]) : nS core (l ++ [x]) = (nS core l).set t (nT core t l ++ [x]) := by
  refine List.ext_getElem (by simp [nS]) fun i h1 h2 => ?_
  have hi : i < core := by simpa [nS] using h1
  rw [List.getElem_set]
  by_cases e : t = i
  · subst e
    rw [if_pos rfl]
    simp only [nS, List.getElem_map, List.getElem_range]
    rw [nT_snoc, if_pos ⟨h, hu⟩]
  · rw [if_neg e]
    simp only [nS, List.getElem_map, List.getElem_range]
    rw [nT_snoc, if_neg, List.append_nil]
    rintro ⟨_, h3⟩
    rw [hu] at h3
    injection h3 with h3
    omega
/-- An edge names tables. -/
theorem edge_uses {x : Ex} (h : (edgeP x).2 = true) : useX x ≠ [] := by
  by_cases h1 : x.op = 1
  rotate_left
  · rw [edgeP_op h1] at h; cases h
  by_cases h2 : x.l.length = 2
  rotate_left
  · rw [edgeP_len h2] at h; cases h
  rw [edgeP_two h1 h2] at h
  have h15 : (x.l[0]'(by omega)).op = 15 := by
    by_cases hc : (x.l[0]'(by omega)).op = 15 ∧ (x.l[1]'(by omega)).op = 15 ∧ ¬ (x.l[0]'(by omega)).t = (x.l[1]'(by omega)).t
    · exact hc.1
    · rw [if_neg hc] at h; cases h
  have hm : (x.l[0]'(by omega)).t ∈ useX x := by
    unfold useX
    rw [setI_mem, List.mem_map]
    refine ⟨x.l[0]'(by omega), ?_, rfl⟩
    rw [cols_out (by omega)]
    have e : x.l = (x.l[0]'(by omega)) :: x.l.drop 1 := by
      rw [← List.drop_eq_getElem_cons (by omega)]; rfl
    generalize x.l[0]'(by omega) = a at *
    rw [e]
    simp only [colsE, List.mem_append]
    exact Or.inl (by rw [cols_in h15]; simp)
  intro hu
  rw [hu] at hm
  cases hm
/-- They rise: so the first and the last tell of all. -/
theorem outI_ends {l : List Int} (hr : Rising l) (hn : 0 < l.length) (core : Int) : outI l core = (!(decide ((0 : Int) ≤ l[0]) && decide (l[0] < core)) || !(decide ((0 : Int) ≤ l[l.length - 1]) && decide (l[l.length - 1] < core))) := by
  have h1 : ∀ i (h : i < l.length), l[0] ≤ l[i] := fun i h => sorted_le hr.le (Nat.zero_le _) h
  have h2 : ∀ i (h : i < l.length), l[i] ≤ l[l.length - 1] := fun i h => sorted_le hr.le (by omega) (by omega)
  by_cases hc : l[0] < 0 ∨ core ≤ l[l.length - 1]
  · have : outI l core = true := by
      rcases hc with hc | hc
      · exact outI_in hn (Or.inl hc)
      · exact outI_in (by omega : l.length - 1 < l.length) (Or.inr hc)
    rw [this]
    have := h1 (l.length - 1) (by omega)
    symm
    simp only [Bool.or_eq_true, Bool.not_eq_true', Bool.and_eq_false_iff, decide_eq_false_iff_not]
    omega
  · have : outI l core = false := by
      unfold outI
      rw [List.any_eq_false]
      intro y hy
      obtain ⟨i, hi, rfl⟩ := List.getElem_of_mem hy
      have := h1 i hi
      have := h2 i hi
      simp only [decide_eq_true_eq]
      omega
    rw [this]
    have := h1 (l.length - 1) (by omega)
    symm
    simp only [Bool.or_eq_false_iff, Bool.not_eq_false', Bool.and_eq_true, decide_eq_true_eq]
    omega
end Go.Proofs.Ytoaciliojdaoaaa
