/- Layer 16: the classes of columns that are the same, by the program. Condition: edges that lie in memory that is there, no more than a thousand. -/
import Derived.Test.YtchogpdfdpbpfaaTree11
import Derived.Test.YtchogpdfdpbpfaaQNb
import Derived.Lib.AppendZeros
import Derived.Test.YtchogpdfdpbpfaaUfN

/- Expressions gathered in a row of one's own; their parts may lie in rows that came later, but in none that is put longer. No condition. -/
namespace Go.Proofs.Ytchogpdfdpbpfaa
open Go.RowKit

/-- A row that does not lie in block g. -/
def PRowN (w : World) (g : Option Nat) : Rw := fun _ A xs => xs = [] ∨ ∃ b o, A = some ⟨b, o, none⟩ ∧ b < w.heap.size ∧ some b ≠ g ∧ ∀ j u, xs[j]? = some u → w.cell? ⟨b, o + j, none⟩ = some u
theorem PRowN.plain {w : World} {g : Option Nat} (e : TypeId) (A : Option Addr) (xs : List Value) (h : PRowN w g e A xs) : PRow w e A xs := by
  rcases h with h | ⟨b, o, hA, hb, _, hc⟩
  · exact Or.inl h
  · exact Or.inr ⟨b, o, hA, hb, hc⟩
theorem PRowN.grew {w w' : World} {g : Option Nat} (k : Grew w w') (e : TypeId) (A : Option Addr) (xs : List Value) (h : PRowN w g e A xs) : PRowN w' g e A xs := by
  rcases h with h | ⟨b, o, hA, hb, hn, hc⟩
  · exact Or.inl h
  · obtain ⟨x, rfl⟩ := k
    exact Or.inr ⟨b, o, hA, lt_more _ _ _ hb, hn, fun j u hu => by rw [more_cell _ _ _ hb]; exact hc j u hu⟩
theorem PRowN.grown {w w' : World} {g g' : Option Nat} (k : w.grownBy w' g) (hg : g' = g ∨ g' = some w.heap.size) (e : TypeId) (A : Option Addr) (xs : List Value) (h : PRowN w g e A xs) : PRowN w' g' e A xs := by
  rcases h with h | ⟨b, o, hA, hb, hn, hc⟩
  · exact Or.inl h
  · refine Or.inr ⟨b, o, hA, Nat.lt_of_lt_of_le hb k.size, ?_, fun j u hu => k.cell (hc j u hu) hn⟩
    rcases hg with rfl | rfl
    · exact hn
    · intro h
      injection h with h
      omega
/-- Rows that lie below are none of it. -/
theorem PRowN.of {u w : World} {g : Option Nat} (k : Grew u w) (hg : ∀ b, g = some b → u.heap.size ≤ b) (e : TypeId) (A : Option Addr) (xs : List Value) (h : PRow u e A xs) : PRowN w g e A xs := by
  rcases h with h | ⟨b, o, hA, hb, hc⟩
  · exact Or.inl h
  · obtain ⟨x, rfl⟩ := k
    exact Or.inr ⟨b, o, hA, lt_more _ _ _ hb, fun h => by have := hg b h.symm; omega, fun j u hu => by rw [more_cell _ _ _ hb]; exact hc j u hu⟩
/-- A row of one's own, from a base above the block on. -/
theorem PRowN.own {w : World} {g : Option Nat} {base size n : Nat} {e e' : TypeId} {A : Option Addr} {c : Nat} {xs : List Value} (h : w.ownsRow base e size (.slice A n c) n xs) (hg : ∀ b, g = some b → b < base) : PRowN w g e' A xs := by
  have hb := own_base h
  obtain ⟨A', c', e1, h3⟩ := own_row h
  injection e1 with e1 _ _
  subst e1
  rcases h3 with h3 | ⟨b, o, rfl, hlt, hc⟩
  · exact Or.inl h3
  · exact Or.inr ⟨b, o, rfl, hlt, fun h => by have h1 := hg b h.symm; have h2 := hb b rfl; omega, hc⟩
theorem cell_grew {w w' : World} (g : Grew w w') {b o : Nat} {v : Value} (hb : b < w.heap.size) (hc : w.cell? ⟨b, o, none⟩ = some v) : b < w'.heap.size ∧ w'.cell? ⟨b, o, none⟩ = some v := by
  obtain ⟨x, rfl⟩ := g
  exact ⟨lt_more _ _ _ hb, by rw [more_cell _ _ _ hb]; exact hc⟩
def ExG (w : World) (base : Nat) (v : Value) (l : List Ex) : Prop := ∃ A c css, v = .slice A l.length c ∧ ListR (ExR (PRowN w v.ownBlock)) 9 l css ∧ w.ownsRow base 27 9 v l.length css.flatten
theorem ExG.nil (w : World) (base : Nat) : ExG w base (.slice none 0 0) [] := ⟨none, 0, [], rfl, ListR.nil, own_none _ _ _ _⟩
theorem ExG.grew {w w' : World} {base : Nat} {v : Value} {l : List Ex} (h : ExG w base v l) (g : Grew w w') : ExG w' base v l := by
  obtain ⟨A, c, css, e, h1, h2⟩ := h
  exact ⟨A, c, css, e, h1.map fun x cs hx => hx.map (PRowN.grew g), own_grewE h2 g⟩
theorem ExG.le {w : World} {base base' : Nat} {v : Value} {l : List Ex} (h : ExG w base v l) (hb : base' ≤ base) : ExG w base' v l := by
  obtain ⟨A, c, css, e, h1, h2⟩ := h
  exact ⟨A, c, css, e, h1, own_le h2 hb⟩
theorem ExG.exs {w : World} {base : Nat} {v : Value} {l : List Ex} (h : ExG w base v l) : ∃ A c, v = .slice A l.length c ∧ ExsR (PRow w) A l := by
  obtain ⟨A, c, css, rfl, h1, h2⟩ := h
  obtain ⟨A', c', e1, h3⟩ := own_row h2
  injection e1 with e1 _ _
  subst e1
  exact ⟨A, c, rfl, css, h1.map fun x cs hx => hx.map PRowN.plain, h3⟩
theorem ExG.openS {w : World} {base n c : Nat} {A : Option Addr} {l : List Ex} (h : ExG w base (.slice A n c) l) : ∃ css, n = l.length ∧ ListR (ExR (PRowN w (Value.slice A n c).ownBlock)) 9 l css ∧ w.ownsRow base 27 9 (.slice A n c) n css.flatten := by
  obtain ⟨A', c', css, e, h1, h2⟩ := h
  injection e with e1 e2 e3
  subst e1 e2 e3
  exact ⟨css, rfl, h1, h2⟩
theorem ExG.app {w w' : World} {base c c' : Nat} {A A' : Option Addr} {n m : Nat} {l l' : List Ex} {css dss : List (List Value)} (hn : n = l.length) (hm : m = l'.length) (h1 : ListR (ExR (PRowN w (Value.slice A n c).ownBlock)) 9 l css) (h2 : ListR (ExR (PRowN w (Value.slice A n c).ownBlock)) 9 l' dss)
    (ho : w'.ownsRow base 27 9 (.slice A' (n + m) c') (n + m) (css.flatten ++ dss.flatten)) (hg : w.grownBy w' (Value.slice A n c).ownBlock)
    (hor : (Value.slice A' (n + m) c').ownBlock = (Value.slice A n c).ownBlock ∨ (Value.slice A' (n + m) c').ownBlock = some w.heap.size) : ExG w' base (.slice A' (n + m) c') (l ++ l') := by
  subst hn hm
  refine ⟨A', c', css ++ dss, by rw [List.length_append], (listR_append h1 h2).map fun x cs hx => hx.map (PRowN.grown hg hor), ?_⟩
  rw [List.length_append, List.flatten_append]
  exact ho
/-- Expressions that lie below the row, to be put into it. -/
theorem exs_in {u w : World} {g : Option Nat} (k : Grew u w) (hg : ∀ b, g = some b → u.heap.size ≤ b) {B : Option Addr} {m : List Ex} (h : ExsR (PRow u) B m) : ∃ dss, ListR (ExR (PRowN w g)) 9 m dss ∧ Row w B dss.flatten := by
  obtain ⟨dss, h1, h2⟩ := h
  exact ⟨dss, h1.map fun x cs hx => hx.map (PRowN.of k hg), Row.grew h2 k⟩
theorem wp_apps {P : Program} {w : World} {o : Oper} {a : Act} {K : Act → World → Prop} {Q : Exit → Act → World → Prop} (s x : Operand) (t e : TypeId) (size : Nat)
    (ho : o.op = .call { callee := .builtin .append, args := #[s, x], argTypes := #[t, t] })
    (u : World) (z : Value) (bytes : Nat) (ht : P.underlying t = some (.slice e)) (hi : (P.info? e).map (fun i => (i.zero, i.size, i.bytes)) = some (some z, size, bytes)) (hzs : z.cells.size = size) (hsz : 0 < size) (hb8 : bytes ≤ 256)
    (v : Value) (n : Nat) (xs : List Value) (hs : a.eval s = v) (hown : w.ownsRow u.heap.size e size v n xs)
    (A : Option Addr) (m c : Nat) (news : List Value) (hx : a.eval x = .slice A m c) (hl : news.length = m * size) (hr : Row w A news) (h1 : ∀ u ∈ news, u.oneCell' = true)
    (hsm : n + m ≤ 549755813888) (hg : Grew u w)
    (h : ∀ A' c' w', w'.ownsRow u.heap.size e size (.slice A' (n + m) c') (n + m) (xs ++ news) → Row w' A' (xs ++ news) → Grew u w' → w.grownBy w' v.ownBlock → ((Value.slice A' (n + m) c').ownBlock = v.ownBlock ∨ (Value.slice A' (n + m) c').ownBlock = some w.heap.size) → K (a.put o.dst (.slice A' (n + m) c')) w') : o.wp P a w K Q := by
  obtain ⟨i, hi0, hz, hs1, hb⟩ := info_parts hi
  have hbb : (n + m) * bytes ≤ 549755813888 * 256 := Nat.mul_le_mul hsm hb8
  refine wp_append_row w s x t ho u.heap.size e i z size bytes ht hi0 hz hs1 hb hzs hsz v n xs hs hown A m c news hx hl hr h1 (by unfold maxLen; omega) (by omega) hg.size ?_
  intro A' c' w' ho' hr' hgb hor
  exact h A' c' w' ho' hr' (hg.grown hgb (own_base hown)) hgb hor
end Go.Proofs.Ytchogpdfdpbpfaa

/- slices.Grow of nil, and slices.Concat, at expressions. Condition: no more than a million expressions. -/
namespace Go.Proofs.Ytchogpdfdpbpfaa
open Go.RowKit
attribute [local go_sem] more_cell more_frozen more_more more_setCell more_of_drew more_of_drewN lt_more le_more past_cell past_cell2 past_frozen past_frozen2 past_setCell past_setCell2 mid_cell mid_frozen mid_setCell
attribute [local go_sem ↓] Go.wp_at_zero Go.wp_at_succ

/-- Room for expressions, none yet, in a row of one's own. -/
def RoomF (w : World) (e : Ending) (w' : World) : Prop := ∃ A c, e = .returned (.slice A 0 c) ∧ Grew w w' ∧ w'.ownsRow w.heap.size 27 9 (.slice A 0 c) 0 []
set_option maxRecDepth 100000 in
theorem grow_any (n : Nat) (hn : n ≤ 1000000) (w : World) : Calls Try.prog 66 #[.slice none 0 0, .int .i64 n] w (RoomF w) := by
  by_cases h0 : n = 0
  · subst h0
    go_enter Try.func66, Try.ntmps66
    go_wp2
    go_ret
    exact ⟨none, 0, rfl, by (show Grew _ _; repeat (first | exact Grew.refl _ | refine Grew.alloc ?_ _ | refine Grew.drew ?_ | refine Grew.more ?_ _)), own_none _ _ _ _⟩
  · obtain ⟨i, hi, hz, hs, hb⟩ := info_parts infoE
    have hpos : (0 : Int) < n := by omega
    have HR : Hid (∀ W : World, (Builtin.append_ #[22, 3] 22 #[.slice none 0 0, .int .i64 n]).run Try.prog W = .ok (.slice (some ⟨W.heap.size, 0, none⟩) n (grownCap W n 0 27)) (W.drew.alloc (.cells (Builtin.zeroCells (Value.agg #[.int .i64 0, .string ⟨#[]⟩, .string ⟨#[]⟩, .int .i64 0, .int .i64 0, .int .i64 0, .int .i64 0, .string ⟨#[]⟩, .slice none 0 0]).cells n ++ Builtin.zeroCells (Value.agg #[.int .i64 0, .string ⟨#[]⟩, .string ⟨#[]⟩, .int .i64 0, .int .i64 0, .int .i64 0, .int .i64 0, .string ⟨#[]⟩, .slice none 0 0]).cells (grownCap W n 0 27 - n)) 27))) := Lib.hid fun W =>
      Lib.run_append_nil_zeros W 22 3 22 27 i _ .i64 .i64 Try.underlying22 Try.underlying3 hi hz n (by omega) (by rw [hs]; decide) (by omega) (by rw [hb]; omega)
    have HO : Hid (∀ W : World, (W.drew.alloc (.cells (Builtin.zeroCells (Value.agg #[.int .i64 0, .string ⟨#[]⟩, .string ⟨#[]⟩, .int .i64 0, .int .i64 0, .int .i64 0, .int .i64 0, .string ⟨#[]⟩, .slice none 0 0]).cells n ++ Builtin.zeroCells (Value.agg #[.int .i64 0, .string ⟨#[]⟩, .string ⟨#[]⟩, .int .i64 0, .int .i64 0, .int .i64 0, .int .i64 0, .string ⟨#[]⟩, .slice none 0 0]).cells (grownCap W n 0 27 - n)) 27)).ownsRow W.heap.size 27 9 (.slice (some ⟨W.heap.size, 0, none⟩) 0 (grownCap W n 0 27)) 0 [] ∧ 0 ≤ (grownCap W n 0 27 : Int)) := Lib.hid fun W => by
      have h1 := grownCap_ge W n 0 27
      have h2 := grownCap_le_maxLen W n 0 27 (by unfold maxLen; omega)
      refine ⟨World.ownsRow_made W.drew _ _ (Nat.le_refl _) h2 ?_, by omega⟩
      rw [Array.size_append, size_zeroCells, size_zeroCells]
      simp only [Value.cells, List.size_toArray, List.length_cons, List.length_nil]
      omega
    clear hi hz hs hb
    go_enter Try.func66, Try.ntmps66
    go_wp2_with (at_builtin; refine Lib.wpList_append_run _ rfl _ _ _ _ rfl _ _ rfl rfl _ _ (HR.out _) ?_)
    go_ret
    exact ⟨_, _, rfl, by (show Grew _ _; repeat (first | exact Grew.refl _ | refine Grew.alloc ?_ _ | refine Grew.drew ?_ | refine Grew.more ?_ _)), (HO.out w).1⟩
def CatS (w : World) (ll : List (List Ex)) (v i : Value) (wr : World) : Prop := ∃ q : Nat, q ≤ ll.length ∧ i = .int .i64 q ∧ v = .int .i64 ((ll.take q).flatten.length : Nat) ∧ wr = w
def CatE (w : World) (ll : List (List Ex)) (v i : Value) (wr : World) : Prop := ∃ q : Nat, q ≤ ll.length ∧ i = .int .i64 q ∧ ExG wr w.heap.size v (ll.take q).flatten ∧ Grew w wr
/-- What lists are put together to: a row of one's own. -/
def CatF (w : World) (l : List Ex) (e : Ending) (w' : World) : Prop := ∃ A c, e = .returned (.slice A l.length c) ∧ Grew w w' ∧ ExG w' w.heap.size (.slice A l.length c) l
theorem xl_take (ll : List (List Ex)) {q : Nat} (h : q < ll.length) : (ll.take (q + 1)).flatten = (ll.take q).flatten ++ ll[q] := by
  rw [List.take_succ_eq_append_getElem h, List.flatten_append]
  simp
theorem xl_le (ll : List (List Ex)) (q : Nat) : (ll.take q).flatten.length ≤ ll.flatten.length := by
  conv => rhs; rw [← List.take_append_drop q ll, List.flatten_append, List.length_append]
  omega
set_option maxRecDepth 100000 in
theorem concat_any (ll : List (List Ex)) (X : Option Addr) (k : Nat) (hn : ll.flatten.length ≤ 1000000) (hm : ll.length ≤ 1000000) (w : World) (rX : XllR (PRow w) X ll) :
    Calls Try.prog 53 #[.slice X ll.length k] w (CatF w ll.flatten) := by
  have HX := Lib.hid rX
  have HGa : Hid (∀ n : Nat, n ≤ 1000000 → ∀ W, Calls Try.prog 66 #[.slice none 0 0, .int .i64 n] W (RoomF W)) := Lib.hid fun n hn W => grow_any n hn W
  have HLe := Lib.hid (xl_le ll)
  have HTk := Lib.hid (fun q => @xl_take ll q)
  obtain ⟨fin, hfin⟩ : ∃ fin, ll.flatten = fin := ⟨_, rfl⟩
  have HF := Lib.hid hfin
  rw [hfin] at hn HLe ⊢
  clear rX hfin
  go_enter Try.func53, Try.ntmps53
  go_wp2_with fail
  go_loopw [3, 11] (fun v i wr => CatS w ll v i wr) (fun _ i _ => ll.length - (intOf i).toNat)
  case atStart => exact ⟨0, Nat.zero_le _, rfl, by simp, rfl⟩
  case round =>
    obtain ⟨q, hq, rfl, rfl, hw⟩ := hrel
    have hw := hw.symm
    subst hw
    have hl1 := HLe.out q
    by_cases h : q < ll.length
    · obtain ⟨b, o, B, kb, rfl, hb, hc, _⟩ := xllR_at HX.out h
      have HT := Lib.hid (HTk.out q h)
      have hl2 := HLe.out (q + 1)
      rw [HT.out, List.length_append] at hl2
      generalize ll[q] = y at *
      generalize (ll.take q).flatten = l0 at *
      have e1 : IntKind.i64.wrap ((l0.length : Int) + (y.length : Int)) = ((l0.length + y.length : Nat) : Int) := by rw [IntWalk.i64_in _ (by omega)]; omega
      go_wp2
      exact ⟨⟨q + 1, by omega, by go_num, by rw [HT.out, List.length_append]; go_num, rfl⟩, by simp only [intOf]; omega⟩
    · obtain rfl : q = ll.length := by omega
      rw [List.take_length, HF.out]
      go_upto_region 10 with (go_at_call 66; (with_reducible refine (HGa.out _ hn _).mono ?_); rintro e w2 ⟨A2, c2, rfl, hg2, ho2⟩)
      have HO2 := Lib.hid ho2
      have HG2 := Lib.hid hg2
      clear hg2 ho2 HGa
      go_wp2_with fail
      go_loopw [6, 27] (fun v i wr => CatE w ll v i wr) (fun _ i _ => ll.length - (intOf i).toNat)
      case atStart => exact ⟨0, Nat.zero_le _, rfl, ⟨A2, c2, [], rfl, ListR.nil, HO2.out⟩, HG2.out⟩
      case round =>
        obtain ⟨q, hq, rfl, hx, hg⟩ := hrel
        have HG := Lib.hid hg
        have hl1 := HLe.out q
        by_cases h : q < ll.length
        · obtain ⟨A3, c3, css, rfl, hcs, ho⟩ := hx
          have HCs := Lib.hid hcs
          have HO := Lib.hid ho
          obtain ⟨b, o, B, kb, rfl, hb0, hc0, hy⟩ := xllR_at HX.out h
          obtain ⟨hb, hc⟩ := cell_grew hg hb0 hc0
          have HT := Lib.hid (HTk.out q h)
          have hl2 := HLe.out (q + 1)
          rw [HT.out, List.length_append] at hl2
          obtain ⟨dss, hd1, hd2⟩ := exs_in (g := (Value.slice A3 (ll.take q).flatten.length c3).ownBlock) hg (own_base ho) hy
          have HD1 := Lib.hid hd1
          have HD2 := Lib.hid hd2
          have hdl := hd1.flat
          have HD3 := Lib.hid (listR_one hd1)
          clear hg ho hcs hy hd1 hd2 hb0 hc0
          generalize ll[q] = y at *
          generalize (ll.take q).flatten = l0 at *
          go_wp2_with (at_builtin; refine wpList_apps rfl (.tmp 31) (.tmp 32) 22 27 9 rfl w (.agg #[.int .i64 0, .string ⟨#[]⟩, .string ⟨#[]⟩, .int .i64 0, .int .i64 0, .int .i64 0, .int .i64 0, .string ⟨#[]⟩, .slice none 0 0]) 112 Try.underlying22 infoE rfl (by decide) (by decide) _ l0.length css.flatten rfl HO.out B y.length kb dss.flatten rfl hdl HD2.out HD3.out (by omega) HG.out ?_; intro A6 c6 w6 ho6 _ hg6 hgb6 hor6; have HX6 := Lib.hid (ExG.app rfl rfl HCs.out HD1.out ho6 hgb6 hor6); have HG6 := Lib.hid hg6; clear ho6 hg6 hgb6 hor6)
          exact ⟨⟨q + 1, by omega, by go_num, by rw [HT.out]; exact HX6.out, HG6.out⟩, by simp only [intOf]; omega⟩
        · obtain rfl : q = ll.length := by omega
          rw [List.take_length, HF.out] at hx
          obtain ⟨A3, c3, css, rfl, hcs, ho⟩ := hx
          have HXf := Lib.hid (show ExG wr w.heap.size _ fin from ⟨A3, c3, css, rfl, hcs, ho⟩)
          clear hcs ho hg
          go_wp2
          go_ret
          exact ⟨_, _, rfl, HG.out, HXf.out⟩
end Go.Proofs.Ytchogpdfdpbpfaa

/- Layer 16: all conditions again, by the program. Condition: conditions that lie in memory that is there, no more than a thousand. -/
namespace Go.Proofs.Ytchogpdfdpbpfaa
open Go.RowKit
attribute [local go_sem] more_cell more_frozen more_more more_setCell more_of_drew more_of_drewN lt_more le_more past_cell past_cell2 past_frozen past_frozen2 past_setCell past_setCell2 mid_cell mid_frozen mid_setCell
attribute [local go_sem ↓] Go.wp_at_zero Go.wp_at_succ

/-- An expression that was made is handed back: its parts in a row of their own. -/
def ExFo (w : World) (x : Ex) (e : Ending) (w' : World) : Prop := ∃ A k, e = .returned (exV x A k) ∧ Grew w w' ∧ ExOwn w w' w.heap.size A k x.l
set_option maxHeartbeats 1000000 in
set_option maxRecDepth 100000 in
theorem of_own (op : Int) (l : List Ex) (A : Option Addr) (k : Nat) (hl : l.length ≤ 1000000) (w : World) (ra : ExsR (PRow w) A l) : Calls Try.prog 54 #[.int .i64 op, .slice A l.length k] w (ExFo w (.mk op es es 0 0 0 0 es l)) := by
  have HC : Hid (∀ W, Grew w W → Calls Try.prog 67 #[.slice A l.length k] W (OwnF w W l)) := Lib.hid fun W hW => clone_ex l A k hl w W hW ra
  clear ra
  go_enter Try.func54, Try.ntmps54
  go_wp2_with fail
  refine (HC.out _ ((Grew.refl w).alloc _)).mono ?_
  rintro e w2 ⟨A2, k2, rfl, hg2, css, hcs, ho⟩
  have hB : Blok w2 w.heap.size 27 #[.int .i64 0, .string ⟨#[]⟩, .string ⟨#[]⟩, .int .i64 0, .int .i64 0, .int .i64 0, .int .i64 0, .string ⟨#[]⟩, .slice none 0 0] := (Blok.new _ _ _ _ rfl).grew hg2
  have hGf := grew_nine (p := 0) (((Grew.refl w).alloc _).trans hg2) (Nat.le_refl w.heap.size) (.int .i64 op) (.string ⟨#[]⟩) (.string ⟨#[]⟩) (.int .i64 0) (.int .i64 0) (.int .i64 0) (.int .i64 0) (.string ⟨#[]⟩) (.slice A2 l.length k2)
  have hOf := own_below_nine (p := 0) ho (b := w.heap.size) (by simp) (.int .i64 op) (.string ⟨#[]⟩) (.string ⟨#[]⟩) (.int .i64 0) (.int .i64 0) (.int .i64 0) (.int .i64 0) (.string ⟨#[]⟩) (.slice A2 l.length k2)
  have hBf := blok_nine hB (.int .i64 op) (.string ⟨#[]⟩) (.string ⟨#[]⟩) (.int .i64 0) (.int .i64 0) (.int .i64 0) (.int .i64 0) (.string ⟨#[]⟩) (.slice A2 l.length k2)
  simp only [Nat.zero_add] at hGf hOf
  have HX : Hid (ExOwn w _ w.heap.size A2 k2 l) := Lib.hid ⟨css, hcs, own_le hOf (by simp)⟩
  have HG := Lib.hid hGf
  have HBf := Lib.hid hBf
  have d0 := hB.cell 0
  have d1 := hB.cell 1
  have d2 := hB.cell 2
  have d3 := hB.cell 3
  have d4 := hB.cell 4
  have d5 := hB.cell 5
  have d6 := hB.cell 6
  have d7 := hB.cell 7
  have d8 := hB.cell 8
  have z0 := hB.thaw 0
  have z1 := hB.thaw 1
  have z2 := hB.thaw 2
  have z3 := hB.thaw 3
  have z4 := hB.thaw 4
  have z5 := hB.thaw 5
  have z6 := hB.thaw 6
  have z7 := hB.thaw 7
  have z8 := hB.thaw 8
  have hlt := hB.lt
  simp at d0 d1 d2 d3 d4 d5 d6 d7 d8
  clear hg2 hcs ho hB hGf hOf hBf
  go_wp2
  clear d0 d1 d2 d3 d4 d5 d6 d7 d8 z0 z1 z2 z3 z4 z5 z6 z7 z8 hlt
  generalize (((((((((w2.setCell ⟨w.heap.size, 0, none⟩ (.int .i64 op)).setCell ⟨w.heap.size, 1, none⟩ (.string ⟨#[]⟩)).setCell ⟨w.heap.size, 2, none⟩ (.string ⟨#[]⟩)).setCell ⟨w.heap.size, 3, none⟩ (.int .i64 0)).setCell ⟨w.heap.size, 4, none⟩ (.int .i64 0)).setCell ⟨w.heap.size, 5, none⟩ (.int .i64 0)).setCell ⟨w.heap.size, 6, none⟩ (.int .i64 0)).setCell ⟨w.heap.size, 7, none⟩ (.string ⟨#[]⟩)).setCell ⟨w.heap.size, 8, none⟩ (.slice A2 l.length k2)) = Wf at *
  have r0 := HBf.out.cell 0
  have r1 := HBf.out.cell 1
  have r2 := HBf.out.cell 2
  have r3 := HBf.out.cell 3
  have r4 := HBf.out.cell 4
  have r5 := HBf.out.cell 5
  have r6 := HBf.out.cell 6
  have r7 := HBf.out.cell 7
  have r8 := HBf.out.cell 8
  simp at r0 r1 r2 r3 r4 r5 r6 r7 r8
  exact bodyPost_ret (v := .agg #[.int .i64 op, .string ⟨#[]⟩, .string ⟨#[]⟩, .int .i64 0, .int .i64 0, .int .i64 0, .int .i64 0, .string ⟨#[]⟩, .slice A2 l.length k2]) (by simp [results, Try.results54, go_sem, r0, r1, r2, r3, r4, r5, r6, r7, r8]) rfl ⟨A2, k2, rfl, HG.out, HX.out⟩
theorem ListR.mapM {α : Type} {R R' : α → List Value → Prop} {size : Nat} {l : List α} {css : List (List Value)} (h : ListR R size l css) (H : ∀ x ∈ l, ∀ cs, R x cs → R' x cs) : ListR R' size l css :=
  ⟨h.1, fun i x cs h1 h2 => ⟨H x (List.mem_of_getElem? h1) _ (h.2 i x cs h1 h2).1, (h.2 i x cs h1 h2).2⟩⟩
theorem exR_leaf {R R' : Rw} (H : ∀ e A, R' e A []) {x : Ex} {cs : List Value} (h : ExR R x cs) (hx : x.l = []) : ExR R' x cs := by
  obtain ⟨A, k, rfl, _⟩ := h.parts
  exact ExR.make (by rw [hx]; exact ⟨[], ListR.nil, H _ _⟩) k
/-- An expression with leaves alone, to be put into a row that lies below its parts. -/
theorem leaf_in {u w : World} {g : Option Nat} {base : Nat} {A : Option Addr} {k : Nat} {x : Ex} (h : ExOwn u w base A k x.l) (hg : ∀ b, g = some b → b < base) (hl : ∀ y ∈ x.l, y.l = []) : ListR (ExR (PRowN w g)) 9 [x] [exC x A k] := by
  obtain ⟨css, h1, h2⟩ := h
  exact listR_single ⟨css, h1.mapM fun y hy cs hc => exR_leaf (fun _ _ => Or.inl rfl) hc (hl y hy), PRowN.own h2 hg⟩ k
theorem xl3 {R : Rw} {a b c : List Ex} {A B C : Option Addr} {k j n : Nat} (ha : ExsR R A a) (hb : ExsR R B b) (hc : ExsR R C c) : ListR (XlR R) 1 [a, b, c] [[.slice A a.length k], [.slice B b.length j], [.slice C c.length n]] := by
  have h0 : ListR (XlR R) 1 ([] : List (List Ex)) [] := ListR.nil
  have h1 := h0.snoc (x := a) (cs := [.slice A a.length k]) ⟨_, _, rfl, ha⟩ rfl
  have h2 := h1.snoc (x := b) (cs := [.slice B b.length j]) ⟨_, _, rfl, hb⟩ rfl
  exact h2.snoc (x := c) (cs := [.slice C c.length n]) ⟨_, _, rfl, hc⟩ rfl
def colX (t c : Int) : Ex := .mk 15 es es t c 0 0 es []
def edX (e : Ed) : Ex := .mk 1 es es 0 0 0 0 es [colX e.a e.ac, colX e.b e.bc]
def allE (ll : List (List Ex)) (l : List Ed) (rs wh : List Ex) : List Ex := ll.flatten ++ l.map edX ++ rs ++ wh
/-- The cells of all conditions, by their lists. -/
def nqC (core : Int) (A : Option Addr) (n k : Nat) (B : Option Addr) (m j : Nat) (C : Option Addr) (p c : Nat) (D : Option Addr) (dn d : Nat) (E : Option Addr) (q e : Nat) : Array Value :=
  #[.int .i64 core, .slice A n k, .slice B m j, .slice C p c, .slice D dn d, .slice E q e]
def AllE (w : World) (l0 : List Ex) (es : List Ed) (v i : Value) (wr : World) : Prop := ∃ q : Nat, q ≤ es.length ∧ i = .int .i64 q ∧ ExG wr w.heap.size v (l0 ++ (es.take q).map edX) ∧ Grew w wr
def ExsF' (w : World) (l : List Ex) (e : Ending) (w' : World) : Prop := ∃ A k, e = .returned (.slice A l.length k) ∧ Grew w w' ∧ ExsR (PRow w') A l
set_option maxHeartbeats 4000000 in
set_option maxRecDepth 100000 in
theorem nall_any (core : Int) (ll : List (List Ex)) (l : List Ed) (rs wh : List Ex) (A : Option Addr) (k : Nat) (B : Option Addr) (j : Nat) (C : Option Addr) (c : Nat) (D : Option Addr) (dn d : Nat) (E : Option Addr) (e : Nat) (w : World)
    (h1 : XllR (PRow w) A ll) (h2 : EdsR (PRow w) B l) (h3 : ExsR (PRow w) C rs) (h4 : ExsR (PRow w) E wh) (hf : ll.flatten.length ≤ 1000) (hl : ll.length ≤ 1000) (he : l.length ≤ 1000) (hr : rs.length ≤ 1000) (hw : wh.length ≤ 1000) :
    Calls Try.prog 28 #[.agg (nqC core A ll.length k B l.length j C rs.length c D dn d E wh.length e)] w (ExsF' w (allE ll l rs wh)) := by
  have H1 := Lib.hid h1
  have H2 := Lib.hid h2
  have H3 := Lib.hid h3
  have H4 := Lib.hid h4
  have HCt : Hid (∀ (ll : List (List Ex)) (X : Option Addr) (k : Nat) (W : World), ll.flatten.length ≤ 1000000 → ll.length ≤ 1000000 → XllR (PRow W) X ll → Calls Try.prog 53 #[.slice X ll.length k] W (CatF W ll.flatten)) := Lib.hid fun ll X k W a b c => concat_any ll X k a b W c
  have HC2 := HCt
  have hes : ∀ q, (l.take q).length ≤ 1000 := fun q => by rw [List.length_take]; omega
  unfold allE
  have HC1 : Hid (∀ W, Grew w W → Calls Try.prog 53 #[.slice A ll.length k] W (CatF W ll.flatten)) := Lib.hid fun W hW => HCt.out ll A k W (by omega) (by omega) (H1.out.grew hW)
  clear HCt
  generalize ll.flatten = L0 at *
  have HFl := Lib.hid hf
  obtain ⟨fin, hfin⟩ : ∃ fin, L0 ++ l.map edX ++ rs ++ wh = fin := ⟨_, rfl⟩
  rw [hfin]
  have HFin0 := Lib.hid hfin
  clear hfin
  clear h1 h2 h3 h4 hf
  unfold nqC
  go_enter Try.func28, Try.ntmps28
  go_upto_region 1 with fail
  have HB : Hid (Blok (w.alloc (.cells #[.int .i64 core, .slice A ll.length k, .slice B l.length j, .slice C rs.length c, .slice D dn d, .slice E wh.length e] 44)) w.heap.size 44 #[.int .i64 core, .slice A ll.length k, .slice B l.length j, .slice C rs.length c, .slice D dn d, .slice E wh.length e]) := Lib.hid (Blok.new _ _ _ _ rfl)
  have HG0 : Hid (Grew w (w.alloc (.cells #[.int .i64 core, .slice A ll.length k, .slice B l.length j, .slice C rs.length c, .slice D dn d, .slice E wh.length e] 44))) := Lib.hid ((Grew.refl w).alloc _)
  generalize (w.alloc (.cells #[.int .i64 core, .slice A ll.length k, .slice B l.length j, .slice C rs.length c, .slice D dn d, .slice E wh.length e] 44)) = W1 at *
  generalize w.heap.size = bq at *
  obtain ⟨xl, x0, x1, x2, x3, x4, x5⟩ := nm_in HB.out
  go_upto_region 2 with (go_at_call 53; (with_reducible refine (HC1.out _ HG0.out).mono ?_); rintro e2 w2 ⟨A2, c2, rfl, hg2, hx2⟩)
  have HX2 := Lib.hid hx2
  have HG2 := Lib.hid hg2
  clear hx2 HC1 xl x0 x1 x2 x3 x4 x5
  obtain ⟨xl, x0, x1, x2, x3, x4, x5⟩ := nm_in (HB.out.grew hg2)
  clear hg2
  go_upto_region 3 with fail
  clear xl x0 x1 x2 x3 x4 x5
  go_loopw [3, 12] (fun v i wr => AllE W1 L0 l v i wr) (fun _ i _ => l.length - (intOf i).toNat)
  case atStart => exact ⟨0, Nat.zero_le _, rfl, by rw [List.take_zero, List.map_nil, List.append_nil]; exact HX2.out, HG2.out⟩
  case round =>
    obtain ⟨q, hq, rfl, hx, hg⟩ := hrel
    have HG := Lib.hid hg
    have hl1 := HFl.out
    by_cases h : q < l.length
    · have HT : Hid (L0 ++ (l.take (q + 1)).map edX = (L0 ++ (l.take q).map edX) ++ [edX l[q]]) := Lib.hid (by rw [List.take_succ_eq_append_getElem h, List.map_append, List.append_assoc]; rfl)
      obtain ⟨b, o, rfl, hb0, a0, a1, a2, a3⟩ := edsR_at ((H2.out.grew HG0.out).grew hg) h
      have hlq : (L0 ++ (l.take q).map edX).length = L0.length + q := by simp; omega
      obtain ⟨A3, c3, css, rfl, hcs, ho⟩ := hx
      have HCs := Lib.hid hcs
      have HO := Lib.hid ho
      clear hg hcs ho
      generalize l[q] = y at *
      generalize L0 ++ (l.take q).map edX = l0 at *
      have hl2 : l0.length ≤ 2000 := by omega
      clear hlq
      have HOf : Hid (∀ W X, ExsR (PRow W) X [colX y.a y.ac, colX y.b y.bc] → Calls Try.prog 54 #[.int .i64 1, .slice X 2 2] W fun e w' => ∃ A k, e = .returned (.agg #[.int .i64 1, .string ⟨#[]⟩, .string ⟨#[]⟩, .int .i64 0, .int .i64 0, .int .i64 0, .int .i64 0, .string ⟨#[]⟩, .slice A 2 k]) ∧ Grew W w' ∧ ExOwn W w' W.heap.size A k (edX y).l) := Lib.hid fun W X hX => of_own 1 _ X 2 (by simp) W hX
      have HLf : Hid (∀ z ∈ (edX y).l, z.l = []) := Lib.hid (by
        intro z hz
        simp only [edX, Ex.l, List.mem_cons, List.not_mem_nil, or_false] at hz
        rcases hz with rfl | rfl <;> rfl)
      go_upto_region 5 with fail
      have HBe : Hid (Blok (wr.alloc (.cells #[.int .i64 y.a, .int .i64 y.ac, .int .i64 y.b, .int .i64 y.bc] 34)) wr.heap.size 34 #[.int .i64 y.a, .int .i64 y.ac, .int .i64 y.b, .int .i64 y.bc]) := Lib.hid (Blok.new _ _ _ _ rfl)
      have HGe : Hid (Grew wr (wr.alloc (.cells #[.int .i64 y.a, .int .i64 y.ac, .int .i64 y.b, .int .i64 y.bc] 34))) := Lib.hid ((Grew.refl wr).alloc _)
      have hob : ∀ i, (Value.slice A3 l0.length c3).ownBlock = some i → i < wr.heap.size := own_lt HO.out
      have HLt := Lib.hid hob
      clear hb0 a0 a1 a2 a3 hob
      generalize (wr.alloc (.cells #[.int .i64 y.a, .int .i64 y.ac, .int .i64 y.b, .int .i64 y.bc] 34)) = W4 at *
      generalize wr.heap.size = be at *
      have hG4 : Grew W4 W4.drew := (Grew.refl W4).drew
      have hS0 := HBe.out.grew hG4
      refine wp_region_S (fun W => Blok W be 34 #[.int .i64 y.a, .int .i64 y.ac, .int .i64 y.b, .int .i64 y.bc]) (by kernel_rfl) ?_
      refine held_take 0 (v := ?_) rfl (by kernel_rfl) (by kernel_rfl) (by kernel_rfl) (fun _ _ _ h => h) (by rfl) ?_ hS0 ?_
      rotate_left
      · (intro W hW; obtain ⟨r0, d0, d1, d2, d3, _, _, _, _⟩ := ed_in hW; go_simp; with_reducible rfl)
      refine held_take 1 (v := ?_) rfl (by kernel_rfl) (by kernel_rfl) (by kernel_rfl) (fun _ _ _ h => h) (by rfl) ?_ hS0 ?_
      rotate_left
      · (intro W hW; obtain ⟨r0, d0, d1, d2, d3, _, _, _, _⟩ := ed_in hW; go_simp; with_reducible rfl)
      refine held_take 2 (v := ?_) rfl (by kernel_rfl) (by kernel_rfl) (by kernel_rfl) (fun _ _ _ h => h) (by rfl) ?_ hS0 ?_
      rotate_left
      · (intro W hW; obtain ⟨r0, d0, d1, d2, d3, _, _, _, _⟩ := ed_in hW; go_simp; with_reducible rfl)
      refine held_take 3 (v := ?_) rfl (by kernel_rfl) (by kernel_rfl) (by kernel_rfl) (fun _ _ _ h => h) (by rfl) ?_ hS0 ?_
      rotate_left
      · (intro W hW; obtain ⟨r0, d0, d1, d2, d3, _, _, _, _⟩ := ed_in hW; go_simp; with_reducible rfl)
      refine held_take 4 (v := ?_) rfl (by kernel_rfl) (by kernel_rfl) (by kernel_rfl) (fun _ _ _ h => h) (by rfl) ?_ hS0 ?_
      rotate_left
      · (intro W hW; obtain ⟨r0, d0, d1, d2, d3, _, _, _, _⟩ := ed_in hW; go_simp; with_reducible rfl)
      refine held_take 6 (v := ?_) rfl (by kernel_rfl) (by kernel_rfl) (by kernel_rfl) (fun _ _ _ h => h) (by rfl) ?_ hS0 ?_
      rotate_left
      · (intro W hW; obtain ⟨r0, d0, d1, d2, d3, _, _, _, _⟩ := ed_in hW; go_simp; with_reducible rfl)
      refine held_take 7 (v := ?_) rfl (by kernel_rfl) (by kernel_rfl) (by kernel_rfl) (fun _ _ _ h => h) (by rfl) ?_ hS0 ?_
      rotate_left
      · (intro W hW; obtain ⟨r0, d0, d1, d2, d3, _, _, _, _⟩ := ed_in hW; go_simp; with_reducible rfl)
      refine held_take 8 (v := ?_) rfl (by kernel_rfl) (by kernel_rfl) (by kernel_rfl) (fun _ _ _ h => h) (by rfl) ?_ hS0 ?_
      rotate_left
      · (intro W hW; obtain ⟨r0, d0, d1, d2, d3, _, _, _, _⟩ := ed_in hW; go_simp; with_reducible rfl)
      refine held_take 9 (v := ?_) rfl (by kernel_rfl) (by kernel_rfl) (by kernel_rfl) (fun _ _ _ h => h) (by rfl) ?_ hS0 ?_
      rotate_left
      · (intro W hW; obtain ⟨r0, d0, d1, d2, d3, _, _, _, _⟩ := ed_in hW; go_simp; with_reducible rfl)
      refine held_norm (a' := ?_) ?_ ?_
      rotate_left
      · (go_simp; with_reducible rfl)
      refine held_call 5 (by kernel_rfl) rfl (by rfl) (fun K hK => ?_)
      go_simp
      go_wp2_with ((go_at_call 55; (with_reducible refine (column_ex _ _ _).grows.mono ?_); rintro e3 w3 ⟨rfl, hg3⟩; have hS3 := hS0.grew hg3))
      refine hK.out _ _ hS3 ?_
      clear hK K
      refine held_call 10 (by kernel_rfl) rfl (by rfl) (fun K hK => ?_)
      go_simp
      go_wp2_with ((go_at_call 55; (with_reducible refine (column_ex _ _ _).grows.mono ?_); rintro e4 w4 ⟨rfl, hg4⟩; have hS4 := hS3.grew hg4))
      refine hK.out _ _ hS4 ?_
      clear hK K
      refine held_call 11 (by kernel_rfl) rfl (by rfl) (fun K hK => ?_)
      go_simp
      have hg5 : Grew w4 (w4.alloc (.cells #[.int .i64 15, .string ⟨#[]⟩, .string ⟨#[]⟩, .int .i64 y.a, .int .i64 y.ac, .int .i64 0, .int .i64 0, .string ⟨#[]⟩, .slice none 0 0, .int .i64 15, .string ⟨#[]⟩, .string ⟨#[]⟩, .int .i64 y.b, .int .i64 y.bc, .int .i64 0, .int .i64 0, .string ⟨#[]⟩, .slice none 0 0] 27)) := (Grew.refl w4).alloc _
      have hx5 : ExsR (PRow (w4.alloc (.cells #[.int .i64 15, .string ⟨#[]⟩, .string ⟨#[]⟩, .int .i64 y.a, .int .i64 y.ac, .int .i64 0, .int .i64 0, .string ⟨#[]⟩, .slice none 0 0, .int .i64 15, .string ⟨#[]⟩, .string ⟨#[]⟩, .int .i64 y.b, .int .i64 y.bc, .int .i64 0, .int .i64 0, .string ⟨#[]⟩, .slice none 0 0] 27))) (some ⟨w4.heap.size, 0, none⟩) [colX y.a y.ac, colX y.b y.bc] :=
        ⟨[exC (colX y.a y.ac) none 0, exC (colX y.b y.bc) none 0], listR_append (listR_single (exs_nil _) 0) (listR_single (exs_nil _) 0), row_new w4 27 w4.heap.size #[.int .i64 15, .string ⟨#[]⟩, .string ⟨#[]⟩, .int .i64 y.a, .int .i64 y.ac, .int .i64 0, .int .i64 0, .string ⟨#[]⟩, .slice none 0 0, .int .i64 15, .string ⟨#[]⟩, .string ⟨#[]⟩, .int .i64 y.b, .int .i64 y.bc, .int .i64 0, .int .i64 0, .string ⟨#[]⟩, .slice none 0 0] rfl⟩
      have hS5 := hS4.grew hg5
      have hG5 := ((hG4.trans hg3).trans hg4).trans hg5
      refine hK.out _ _ hS5 ?_
      clear hK K
      clear hS0 hS3 hS4 hG4 hg3 hg4 hg5
      generalize (w4.alloc (.cells #[.int .i64 15, .string ⟨#[]⟩, .string ⟨#[]⟩, .int .i64 y.a, .int .i64 y.ac, .int .i64 0, .int .i64 0, .string ⟨#[]⟩, .slice none 0 0, .int .i64 15, .string ⟨#[]⟩, .string ⟨#[]⟩, .int .i64 y.b, .int .i64 y.bc, .int .i64 0, .int .i64 0, .string ⟨#[]⟩, .slice none 0 0] 27)) = W5 at *
      have HX5 := Lib.hid hx5
      clear hx5
      refine held_call 12 (by kernel_rfl) rfl (by rfl) (fun K hK => ?_)
      go_simp
      go_wp2_with ((go_at_call 54; (with_reducible refine (HOf.out _ _ HX5.out).mono ?_); rintro e6 w6 ⟨A6, k6, rfl, hg6, ho6⟩; have hS6 := hS5.grew hg6))
      refine hK.out _ _ hS6 ?_
      clear hK K
      have hw6 : W5.heap.size ≤ w6.heap.size := hg6.size
      have hG6 := hG5.trans hg6
      have hL6 : be < W5.heap.size := hS5.lt
      have HD6 := Lib.hid (leaf_in (g := (Value.slice A3 l0.length c3).ownBlock) (k := k6) ho6 (fun b hb => by have := HLt.out b hb; omega) HLf.out)
      clear ho6 hg6
      refine held_call 13 (by kernel_rfl) rfl (by rfl) (fun K hK => ?_)
      go_simp
      have hg7 : Grew w6 (w6.alloc (.cells #[.int .i64 1, .string ⟨#[]⟩, .string ⟨#[]⟩, .int .i64 0, .int .i64 0, .int .i64 0, .int .i64 0, .string ⟨#[]⟩, .slice A6 2 k6] 27)) := (Grew.refl w6).alloc _
      have hr7 : Row (w6.alloc (.cells #[.int .i64 1, .string ⟨#[]⟩, .string ⟨#[]⟩, .int .i64 0, .int .i64 0, .int .i64 0, .int .i64 0, .string ⟨#[]⟩, .slice A6 2 k6] 27)) (some ⟨w6.heap.size, 0, none⟩) [exC (edX y) A6 k6].flatten := row_new w6 27 w6.heap.size #[.int .i64 1, .string ⟨#[]⟩, .string ⟨#[]⟩, .int .i64 0, .int .i64 0, .int .i64 0, .int .i64 0, .string ⟨#[]⟩, .slice A6 2 k6] rfl
      have hS7 := hS6.grew hg7
      have hG7 := (HGe.out.trans hG6).trans hg7
      refine hK.out _ _ hS7 ?_
      clear hK K
      have HD7 := Lib.hid (HD6.out.map fun x cs hx => hx.map (PRowN.grew hg7))
      clear hg7 hS5 hS6 hG5 hG6
      have HR7 := Lib.hid hr7
      generalize (w6.alloc (.cells #[.int .i64 1, .string ⟨#[]⟩, .string ⟨#[]⟩, .int .i64 0, .int .i64 0, .int .i64 0, .int .i64 0, .string ⟨#[]⟩, .slice A6 2 k6] 27)) = W7 at *
      clear hr7
      refine held_call 14 (by kernel_rfl) rfl (by rfl) (fun K hK => ?_)
      refine wp_apps (.tmp 16) (.tmp 29) 22 27 9 rfl W1 (.agg #[.int .i64 0, .string ⟨#[]⟩, .string ⟨#[]⟩, .int .i64 0, .int .i64 0, .int .i64 0, .int .i64 0, .string ⟨#[]⟩, .slice none 0 0]) 112 Try.underlying22 infoE rfl (by decide) (by decide) _ l0.length css.flatten rfl (own_grewE HO.out hG7) (some ⟨w6.heap.size, 0, none⟩) 1 1 [exC (edX y) A6 k6].flatten rfl rfl HR7.out (listR_one HD7.out) (by omega) (HG.out.trans hG7) ?_
      intro A8 c8 w8 ho8 _ hg8 hgb8 hor8
      have hS8 := hS7.grown hgb8 (fun e => by have := HLt.out _ e; omega)
      have HX8 := Lib.hid (ExG.app rfl rfl (HCs.out.map fun x cs hx => hx.map (PRowN.grew hG7)) HD7.out ho8 hgb8 hor8)
      have HG8 := Lib.hid hg8
      refine hK.out _ _ hS8 ?_
      clear hK K
      go_simp
      clear hgb8 hor8 ho8 hg8
      refine held_take 15 (v := ?_) rfl (by kernel_rfl) (by kernel_rfl) (by kernel_rfl) (fun _ _ _ h => h) (by rfl) ?_ hS8 ?_
      rotate_left
      · (intro W hW; go_simp; with_reducible rfl)
      refine held_norm (a' := ?_) ?_ ?_
      rotate_left
      · (go_simp; with_reducible rfl)
      refine held_done (by kernel_rfl) ?_
      clear hS8 hS7
      go_wp2
      exact ⟨⟨q + 1, by omega, by go_num, by rw [HT.out]; exact HX8.out, HG8.out⟩, by simp only [intOf]; omega⟩
    · obtain rfl : q = l.length := by omega
      rw [List.take_length] at hx
      have hln : (L0 ++ l.map edX).length ≤ 2000 := by simp; omega
      obtain ⟨A3, k3, rfl, hx3⟩ := hx.exs
      have hG1 := HG0.out.trans hg
      have hx4 : XllR (PRow (wr.alloc (.cells #[.slice A3 (L0 ++ l.map edX).length k3, .slice C rs.length c, .slice E wh.length e] 22))) (some ⟨wr.heap.size, 0, none⟩) [L0 ++ l.map edX, rs, wh] :=
        ⟨[[.slice A3 (L0 ++ l.map edX).length k3], [.slice C rs.length c], [.slice E wh.length e]], xl3 (hx3.grew ((Grew.refl wr).alloc _)) (H3.out.grew (hG1.alloc _)) (H4.out.grew (hG1.alloc _)), row_new wr 22 wr.heap.size #[.slice A3 (L0 ++ l.map edX).length k3, .slice C rs.length c, .slice E wh.length e] rfl⟩
      obtain ⟨xl, x0, x1, x2, x3, x4, x5⟩ := nm_in (HB.out.grew hg)
      have HFin : Hid (fin = [L0 ++ l.map edX, rs, wh].flatten) := Lib.hid (by rw [← HFin0.out]; simp)
      have hle : [L0 ++ l.map edX, rs, wh].flatten.length ≤ 1000000 := by simp at hln ⊢; omega
      have HC3 := Lib.hid (HC2.out [L0 ++ l.map edX, rs, wh] (some ⟨wr.heap.size, 0, none⟩) 3 _ hle (by simp) hx4)
      have HG1 := Lib.hid hG1
      rw [← HFin.out] at HC3
      clear hle hx3 hx4 hG1 hg HC2 HFin HFin0
      generalize (L0 ++ l.map edX).length = nl at *
      go_wp2_with fail
      refine HC3.out.mono ?_
      rintro e9 w9 ⟨A9, c9, rfl, hg9, hx9⟩
      have HX9 := Lib.hid hx9
      have HG9 := Lib.hid ((HG1.out.alloc _).trans hg9)
      clear hg9 hx9 xl x0 x1 x2 x3 x4 x5
      go_wp2
      go_ret
      obtain ⟨A', k', e', hx'⟩ := HX9.out.exs
      injection e' with e1 _ _
      subst e1
      exact ⟨A9, c9, rfl, HG9.out, hx'⟩
end Go.Proofs.Ytchogpdfdpbpfaa

/- Layer 16: all conditions again, by the document. Condition: conditions that lie in memory that is there, no more than a thousand. -/
namespace Go.Proofs.Ytchogpdfdpbpfaa
open Go.RowKit
attribute [local go_sem] more_cell more_frozen more_more more_setCell more_of_drew more_of_drewN lt_more le_more past_cell past_cell2 past_frozen past_frozen2 past_setCell past_setCell2 mid_cell mid_frozen mid_setCell
attribute [local go_sem ↓] Go.wp_at_zero Go.wp_at_succ

def RAll1 (w : World) (ll : List (List Ex)) (v i : Value) (wr : World) : Prop := ∃ q : Nat, q ≤ ll.length ∧ i = .int .i64 q ∧ ExG wr w.heap.size v (ll.take q).flatten ∧ Grew w wr
set_option maxHeartbeats 4000000 in
set_option maxRecDepth 100000 in
theorem rall16_any (core : Int) (ll : List (List Ex)) (l : List Ed) (rs wh : List Ex) (A : Option Addr) (k : Nat) (B : Option Addr) (j : Nat) (C : Option Addr) (c : Nat) (D : Option Addr) (dn d : Nat) (E : Option Addr) (e : Nat) (w : World)
    (h1 : XllR (PRow w) A ll) (h2 : EdsR (PRow w) B l) (h3 : ExsR (PRow w) C rs) (h4 : ExsR (PRow w) E wh) (hf : ll.flatten.length ≤ 1000) (hl : ll.length ≤ 1000) (he : l.length ≤ 1000) (hr : rs.length ≤ 1000) (hw : wh.length ≤ 1000) :
    Calls Try.prog 29 #[.agg (nqC core A ll.length k B l.length j C rs.length c D dn d E wh.length e)] w (ExsF' w (allE ll l rs wh)) := by
  have H1 := Lib.hid h1
  have H2 := Lib.hid h2
  have H3 := Lib.hid h3
  have H4 := Lib.hid h4
  have HLe := Lib.hid (xl_le ll)
  have HTk := Lib.hid (fun q => @xl_take ll q)
  unfold allE
  obtain ⟨L0, hL0⟩ : ∃ L0, ll.flatten = L0 := ⟨_, rfl⟩
  rw [hL0] at hf HLe ⊢
  have HL0 := Lib.hid hL0
  have HFl := Lib.hid hf
  obtain ⟨fin, hfin⟩ : ∃ fin, L0 ++ l.map edX ++ rs ++ wh = fin := ⟨_, rfl⟩
  rw [hfin]
  have HFin := Lib.hid hfin
  clear h1 h2 h3 h4 hf hfin hL0
  unfold nqC
  go_enter Try.func29, Try.ntmps29
  go_upto_region 1 with fail
  have HB : Hid (Blok (w.alloc (.cells #[.int .i64 core, .slice A ll.length k, .slice B l.length j, .slice C rs.length c, .slice D dn d, .slice E wh.length e] 44)) w.heap.size 44 #[.int .i64 core, .slice A ll.length k, .slice B l.length j, .slice C rs.length c, .slice D dn d, .slice E wh.length e]) := Lib.hid (Blok.new _ _ _ _ rfl)
  have HG0 : Hid (Grew w (w.alloc (.cells #[.int .i64 core, .slice A ll.length k, .slice B l.length j, .slice C rs.length c, .slice D dn d, .slice E wh.length e] 44))) := Lib.hid ((Grew.refl w).alloc _)
  generalize (w.alloc (.cells #[.int .i64 core, .slice A ll.length k, .slice B l.length j, .slice C rs.length c, .slice D dn d, .slice E wh.length e] 44)) = W1 at *
  generalize w.heap.size = bq at *
  go_wp2_with fail
  go_loopw [3, 4] (fun v i wr => RAll1 W1 ll v i wr) (fun _ i _ => ll.length - (intOf i).toNat)
  case atStart => exact ⟨0, Nat.zero_le _, rfl, ExG.nil _ _, Grew.refl _⟩
  case round =>
    obtain ⟨q, hq, rfl, hx, hg⟩ := hrel
    have HG := Lib.hid hg
    have hl1 := HLe.out q
    have hl0 := HFl.out
    by_cases h : q < ll.length
    · obtain ⟨A3, c3, css, rfl, hcs, ho⟩ := hx
      have HCs := Lib.hid hcs
      have HO := Lib.hid ho
      obtain ⟨b, o, K, kb, rfl, hb0, hc0, hy⟩ := xllR_at (H1.out.grew HG0.out) h
      obtain ⟨hb, hc⟩ := cell_grew hg hb0 hc0
      obtain ⟨xl, x0, x1, x2, x3, x4, x5⟩ := nm_in (HB.out.grew hg)
      have HT := Lib.hid (HTk.out q h)
      have hl2 := HLe.out (q + 1)
      rw [HT.out, List.length_append] at hl2
      obtain ⟨dss, hd1, hd2⟩ := exs_in (g := (Value.slice A3 (ll.take q).flatten.length c3).ownBlock) hg (own_base ho) hy
      have HD1 := Lib.hid hd1
      have HD2 := Lib.hid hd2
      have hdl := hd1.flat
      have HD3 := Lib.hid (listR_one hd1)
      clear hg ho hcs hy hd1 hd2 hb0 hc0
      generalize ll[q] = y at *
      generalize (ll.take q).flatten = l0 at *
      go_wp2_with (at_builtin; refine wpList_apps rfl (.tmp 14) (.tmp 19) 22 27 9 rfl W1 (.agg #[.int .i64 0, .string ⟨#[]⟩, .string ⟨#[]⟩, .int .i64 0, .int .i64 0, .int .i64 0, .int .i64 0, .string ⟨#[]⟩, .slice none 0 0]) 112 Try.underlying22 infoE rfl (by decide) (by decide) _ l0.length css.flatten rfl HO.out K y.length kb dss.flatten rfl hdl HD2.out HD3.out (by omega) HG.out ?_; intro A6 c6 w6 ho6 _ hg6 hgb6 hor6; have HX6 := Lib.hid (ExG.app rfl rfl HCs.out HD1.out ho6 hgb6 hor6); have HG6 := Lib.hid hg6; clear ho6 hg6 hgb6 hor6)
      exact ⟨⟨q + 1, by omega, by go_num, by rw [HT.out]; exact HX6.out, HG6.out⟩, by simp only [intOf]; omega⟩
    · obtain rfl : q = ll.length := by omega
      rw [List.take_length, HL0.out] at hx
      obtain ⟨xl, x0, x1, x2, x3, x4, x5⟩ := nm_in (HB.out.grew hg)
      obtain ⟨A2, c2, css2, rfl, hcs2, ho2⟩ := hx
      have HX2 := Lib.hid (show ExG wr W1.heap.size _ L0 from ⟨A2, c2, css2, rfl, hcs2, ho2⟩)
      clear hl1 hcs2 ho2 HL0 HTk HLe
      go_upto_region 6 with fail
      clear xl x0 x1 x2 x3 x4 x5 hg
      go_wp2_with fail
      go_loopw [3, 5] (fun v i wr => AllE W1 L0 l v i wr) (fun _ i _ => l.length - (intOf i).toNat)
      case atStart => exact ⟨0, Nat.zero_le _, rfl, by rw [List.take_zero, List.map_nil, List.append_nil]; exact HX2.out, HG.out⟩
      case round =>
        obtain ⟨q, hq, rfl, hx, hg⟩ := hrel
        have HGr := Lib.hid hg
        by_cases h : q < l.length
        · have HT : Hid (L0 ++ (l.take (q + 1)).map edX = (L0 ++ (l.take q).map edX) ++ [edX l[q]]) := Lib.hid (by rw [List.take_succ_eq_append_getElem h, List.map_append, List.append_assoc]; rfl)
          obtain ⟨b, o, rfl, hb0, a0, a1, a2, a3⟩ := edsR_at ((H2.out.grew HG0.out).grew hg) h
          obtain ⟨xl, x0, x1, x2, x3, x4, x5⟩ := nm_in (HB.out.grew hg)
          have hlq : (L0 ++ (l.take q).map edX).length = L0.length + q := by simp; omega
          obtain ⟨A3, c3, css, rfl, hcs, ho⟩ := hx
          have HCs := Lib.hid hcs
          have HO := Lib.hid ho
          clear hg hcs ho
          generalize l[q] = y at *
          generalize L0 ++ (l.take q).map edX = l0 at *
          have hl2 : l0.length ≤ 2000 := by omega
          clear hlq
          go_upto_region 10 with fail
          obtain ⟨W4, hW4⟩ : ∃ W4, W4 = wr.alloc (.cells #[.int .i64 y.a, .int .i64 y.ac, .int .i64 y.b, .int .i64 y.bc] 34) := ⟨_, rfl⟩
          have HBe : Hid (Blok W4 wr.heap.size 34 #[.int .i64 y.a, .int .i64 y.ac, .int .i64 y.b, .int .i64 y.bc]) := Lib.hid (by rw [hW4]; exact Blok.new _ _ _ _ rfl)
          have HGe : Hid (Grew wr W4) := Lib.hid (by rw [hW4]; exact (Grew.refl wr).alloc _)
          rw [← hW4]
          clear hW4 hb0 a0 a1 a2 a3 xl x0 x1 x2 x3 x4 x5
          have hob : ∀ i, (Value.slice A3 l0.length c3).ownBlock = some i → i < wr.heap.size := own_lt HO.out
          have HLt := Lib.hid hob
          clear hob
          obtain ⟨r0, d0, d1, d2, d3, _, _, _, _⟩ := ed_in HBe.out
          generalize wr.heap.size = be at *
          have HLt2 : Hid (be < W4.heap.size) := Lib.hid r0
          generalize hcc : (Obj.cells #[.int .i64 15, .string ⟨#[]⟩, .string ⟨#[]⟩, .int .i64 y.a, .int .i64 y.ac, .int .i64 0, .int .i64 0, .string ⟨#[]⟩, .slice none 0 0, .int .i64 15, .string ⟨#[]⟩, .string ⟨#[]⟩, .int .i64 y.b, .int .i64 y.bc, .int .i64 0, .int .i64 0, .string ⟨#[]⟩, .slice none 0 0] 27) = cc
          have HR5 : Hid (Row (W4.alloc cc) (some ⟨W4.heap.size, 0, none⟩) [exC (colX y.a y.ac) none 0, exC (colX y.b y.bc) none 0].flatten) := Lib.hid (by rw [← hcc]; exact row_new W4 27 W4.heap.size #[.int .i64 15, .string ⟨#[]⟩, .string ⟨#[]⟩, .int .i64 y.a, .int .i64 y.ac, .int .i64 0, .int .i64 0, .string ⟨#[]⟩, .slice none 0 0, .int .i64 15, .string ⟨#[]⟩, .string ⟨#[]⟩, .int .i64 y.b, .int .i64 y.bc, .int .i64 0, .int .i64 0, .string ⟨#[]⟩, .slice none 0 0] rfl)
          have HD6 : Hid (ListR (ExR (PRowN (W4.alloc cc) (Value.slice A3 l0.length c3).ownBlock)) 9 [edX y] [exC (edX y) (some ⟨W4.heap.size, 0, none⟩) 2]) := Lib.hid (by
            refine listR_single ⟨[exC (colX y.a y.ac) none 0, exC (colX y.b y.bc) none 0], listR_append (listR_single ⟨[], ListR.nil, Or.inl rfl⟩ 0) (listR_single ⟨[], ListR.nil, Or.inl rfl⟩ 0), ?_⟩ 2
            rcases HR5.out with h | ⟨b, o, hA, hlt, hc⟩
            · exact Or.inl h
            · refine Or.inr ⟨b, o, hA, hlt, fun h => ?_, hc⟩
              have h1 := HLt.out b h.symm
              have h2 := HLt2.out
              injection hA with hA
              injection hA with e1 _ _
              omega)
          subst hcc
          go_wp2_with (at_builtin; refine wpList_apps rfl (.tmp 33) (.tmp 46) 22 27 9 rfl W1 (.agg #[.int .i64 0, .string ⟨#[]⟩, .string ⟨#[]⟩, .int .i64 0, .int .i64 0, .int .i64 0, .int .i64 0, .string ⟨#[]⟩, .slice none 0 0]) 112 Try.underlying22 infoE rfl (by decide) (by decide) _ l0.length css.flatten rfl (own_alloc (own_alloc (own_grewE HO.out HGe.out) _) _) _ 1 1 [exC (edX y) (some ⟨W4.heap.size, 0, none⟩) 2].flatten rfl rfl (row_new _ 27 _ #[.int .i64 1, .string ⟨#[]⟩, .string ⟨#[]⟩, .int .i64 0, .int .i64 0, .int .i64 0, .int .i64 0, .string ⟨#[]⟩, .slice (some ⟨W4.heap.size, 0, none⟩) 2 2] (by simp)) (listR_one HD6.out) (by omega) (((HGr.out.trans HGe.out).alloc _).alloc _) ?_; intro A6 c6 w6 ho6 _ hg6 hgb6 hor6; have HX6 := Lib.hid (ExG.app rfl rfl (HCs.out.map fun x cs hx => hx.map (PRowN.grew ((HGe.out.alloc _).alloc _))) (HD6.out.map fun x cs hx => hx.map (PRowN.grew ((Grew.refl _).alloc _))) ho6 hgb6 hor6); have HG6 := Lib.hid hg6; clear ho6 hg6 hgb6 hor6)
          exact ⟨⟨q + 1, by omega, by go_num, by rw [HT.out]; exact HX6.out, HG6.out⟩, by simp only [intOf]; omega⟩
        · obtain rfl : q = l.length := by omega
          rw [List.take_length] at hx
          have hln : (L0 ++ l.map edX).length ≤ 2000 := by simp; omega
          obtain ⟨xl, x0, x1, x2, x3, x4, x5⟩ := nm_in (HB.out.grew hg)
          generalize L0 ++ l.map edX = l0 at *
          obtain ⟨A3, c3, css, rfl, hcs, ho⟩ := hx
          have HCs := Lib.hid (hcs.map fun x cs hx => hx.map (PRowN.grew (Grew.refl wr).drew))
          have HO := Lib.hid (own_grewE ho (Grew.refl wr).drew)
          clear hcs ho
          go_upto_region 11 with fail
          clear xl x0 x1 x2 x3 x4 x5
          have hS0 : Grew W1 wr.drew := hg.drew
          refine wp_region_S (fun W => Grew W1 W) (by kernel_rfl) ?_
          refine held_take 0 (v := ?_) rfl (by kernel_rfl) (by kernel_rfl) (by kernel_rfl) (fun _ _ _ h => h) (by rfl) ?_ hS0 ?_
          rotate_left
          · (intro W hW; obtain ⟨xl, x0, x1, x2, x3, x4, x5⟩ := nm_in (HB.out.grew hW); go_simp; with_reducible rfl)
          refine held_take 1 (v := ?_) rfl (by kernel_rfl) (by kernel_rfl) (by kernel_rfl) (fun _ _ _ h => h) (by rfl) ?_ hS0 ?_
          rotate_left
          · (intro W hW; obtain ⟨xl, x0, x1, x2, x3, x4, x5⟩ := nm_in (HB.out.grew hW); go_simp; with_reducible rfl)
          refine held_take 2 (v := ?_) rfl (by kernel_rfl) (by kernel_rfl) (by kernel_rfl) (fun _ _ _ h => h) (by rfl) ?_ hS0 ?_
          rotate_left
          · (intro W hW; obtain ⟨xl, x0, x1, x2, x3, x4, x5⟩ := nm_in (HB.out.grew hW); go_simp; with_reducible rfl)
          refine held_take 4 (v := ?_) rfl (by kernel_rfl) (by kernel_rfl) (by kernel_rfl) (fun _ _ _ h => h) (by rfl) ?_ hS0 ?_
          rotate_left
          · (intro W hW; obtain ⟨xl, x0, x1, x2, x3, x4, x5⟩ := nm_in (HB.out.grew hW); go_simp; with_reducible rfl)
          refine held_take 5 (v := ?_) rfl (by kernel_rfl) (by kernel_rfl) (by kernel_rfl) (fun _ _ _ h => h) (by rfl) ?_ hS0 ?_
          rotate_left
          · (intro W hW; obtain ⟨xl, x0, x1, x2, x3, x4, x5⟩ := nm_in (HB.out.grew hW); go_simp; with_reducible rfl)
          refine held_norm (a' := ?_) ?_ ?_
          rotate_left
          · (go_simp; with_reducible rfl)
          obtain ⟨dss, hd1, hd2⟩ := exs_in (g := (Value.slice A3 l0.length c3).ownBlock) hS0 (own_base HO.out) (H3.out.grew HG0.out)
          refine held_call 3 (by kernel_rfl) rfl (by rfl) (fun K hK => ?_)
          refine wp_apps (.tmp 48) (.tmp 50) 22 27 9 rfl W1 (.agg #[.int .i64 0, .string ⟨#[]⟩, .string ⟨#[]⟩, .int .i64 0, .int .i64 0, .int .i64 0, .int .i64 0, .string ⟨#[]⟩, .slice none 0 0]) 112 Try.underlying22 infoE rfl (by decide) (by decide) _ l0.length css.flatten rfl HO.out C rs.length c dss.flatten rfl hd1.flat hd2 (listR_one hd1) (by omega) hS0 ?_
          intro A8 c8 w8 ho8 _ hg8 hgb8 hor8
          have HX8 := ExG.app rfl rfl HCs.out hd1 ho8 hgb8 hor8
          refine hK.out _ _ hg8 ?_
          clear hK K
          obtain ⟨css8, hn8', hc8, hw8⟩ := HX8.openS
          have HN8 := Lib.hid hn8'
          clear hn8'
          obtain ⟨dss8, hd3, hd4⟩ := exs_in (g := (Value.slice A8 (l0.length + rs.length) c8).ownBlock) hg8 (own_base hw8) (H4.out.grew HG0.out)
          refine held_call 6 (by kernel_rfl) rfl (by rfl) (fun K hK => ?_)
          refine wp_apps (.tmp 51) (.tmp 53) 22 27 9 rfl W1 (.agg #[.int .i64 0, .string ⟨#[]⟩, .string ⟨#[]⟩, .int .i64 0, .int .i64 0, .int .i64 0, .int .i64 0, .string ⟨#[]⟩, .slice none 0 0]) 112 Try.underlying22 infoE rfl (by decide) (by decide) _ (l0.length + rs.length) css8.flatten rfl hw8 E wh.length e dss8.flatten rfl hd3.flat hd4 (listR_one hd3) (by omega) hg8 ?_
          intro A9 c9 w9 ho9 _ hg9 hgb9 hor9
          have HX9 := ExG.app HN8.out rfl hc8 hd3 ho9 hgb9 hor9
          refine hK.out _ _ hg9 ?_
          clear hK K
          refine held_take 7 (v := ?_) rfl (by kernel_rfl) (by kernel_rfl) (by kernel_rfl) (fun _ _ _ h => h) (by rfl) ?_ hg9 ?_
          rotate_left
          · (intro W hW; go_simp; with_reducible rfl)
          refine held_norm (a' := ?_) ?_ ?_
          rotate_left
          · (go_simp; with_reducible rfl)
          refine held_done (by kernel_rfl) ?_
          have HDn := Lib.hid (HG0.out.trans hg9)
          rw [HFin.out] at HX9
          have HX := Lib.hid HX9
          clear HN8 hc8 hw8 hd3 hd4 hg8 hgb8 hor8 ho8 HX8 hd1 hd2 hS0 ho9 hgb9 hor9 HX9 hg9 hg
          go_wp2
          go_ret
          obtain ⟨A', k', e', hx'⟩ := HX.out.exs
          injection e' with e1 e2 e3
          subst e1 e3
          exact ⟨A9, c9, by rw [← e2]; rfl, HDn.out, hx'⟩
end Go.Proofs.Ytchogpdfdpbpfaa

namespace Go.Proofs.Ytchogpdfdpbpfaa
open Go.RowKit
attribute [local go_sem] more_cell more_frozen more_more more_setCell more_of_drew more_of_drewN lt_more le_more past_cell past_cell2 past_frozen past_frozen2 past_setCell past_setCell2 mid_cell mid_frozen mid_setCell
attribute [local go_sem ↓] Go.wp_at_zero Go.wp_at_succ

theorem Blok.keepB {w w' : World} {g h b : Nat} {t : TypeId} {cs : Array Value} (hb : Blok w b t cs) (k : Keep2 w w' g h) (h1 : b ≠ g) (h2 : b ≠ h) : Blok w' b t cs := by
  have hl := hb.lt
  unfold Blok at *
  rw [k.block b hl h1 h2]
  exact hb
theorem UfS.up {u u' w : World} {g h n : Nat} {r : Nat → Nat} (s : UfS u' g h n r w) (k : Grew u u') : UfS u g h n r w :=
  ⟨k.trans s.grew, Nat.le_trans k.size s.gu, Nat.le_trans k.size s.hu, s.least, s.lies⟩
/-- Each column's class behind the edges. -/
def clsE (l : List Ed) : Nat → Nat := l.foldl (fun r e => joinI 128 r (columnI e.a e.ac) (columnI e.b e.bc)) id
theorem clsE_take (l : List Ed) (k : Nat) (h : k < l.length) : clsE (l.take (k + 1)) = joinI 128 (clsE (l.take k)) (columnI l[k].a l[k].ac) (columnI l[k].b l[k].bc) := by
  rw [List.take_succ_eq_append_getElem h]
  unfold clsE
  rw [List.foldl_append]
  rfl
def ClsAt (u : World) (g h : Nat) (l : List Ed) (i : Value) (wr : World) : Prop := ∃ q : Nat, q ≤ l.length ∧ i = .int .i64 q ∧ UfS u g h 128 (clsE (l.take q)) wr
def ClsF (w : World) (l : List Ed) (e : Ending) (w' : World) : Prop := ∃ g h, e = .returned (.pointer (some ⟨g, 0, none⟩)) ∧ UfS w g h 128 (clsE l) w'
set_option maxHeartbeats 4000000 in
set_option maxRecDepth 100000 in
theorem classes_any (core : Int) (l : List Ed) (A : Option Addr) (n k : Nat) (B : Option Addr) (j : Nat) (C : Option Addr) (p c : Nat) (D : Option Addr) (dn d : Nat) (E : Option Addr) (q e : Nat) (w : World)
    (h2 : EdsR (PRow w) B l) (he : l.length ≤ 3000) :
    Calls Try.prog 21 #[.agg (nqC core A n k B l.length j C p c D dn d E q e)] w (ClsF w l) := by
  have H2 := Lib.hid h2
  have HNew : Hid (∀ W, Calls Try.prog 50 #[.int .i64 128] W fun e w' => ∃ g h, e = .returned (.pointer (some ⟨g, 0, none⟩)) ∧ UfS W g h 128 id w' ∧ Grew W w') := Lib.hid fun W => uf_newB 128 (by omega) W
  clear h2
  unfold nqC
  go_enter Try.func21, Try.ntmps21
  go_upto_region 1 with fail
  have HB : Hid (Blok (w.alloc (.cells #[.int .i64 core, .slice A n k, .slice B l.length j, .slice C p c, .slice D dn d, .slice E q e] 44)) w.heap.size 44 #[.int .i64 core, .slice A n k, .slice B l.length j, .slice C p c, .slice D dn d, .slice E q e]) := Lib.hid (Blok.new _ _ _ _ rfl)
  have HG0 : Hid (Grew w (w.alloc (.cells #[.int .i64 core, .slice A n k, .slice B l.length j, .slice C p c, .slice D dn d, .slice E q e] 44))) := Lib.hid ((Grew.refl w).alloc _)
  generalize (w.alloc (.cells #[.int .i64 core, .slice A n k, .slice B l.length j, .slice C p c, .slice D dn d, .slice E q e] 44)) = W1 at *
  generalize w.heap.size = bq at *
  go_upto_region 2 with (go_at_call 50; (with_reducible refine (HNew.out _).mono ?_); rintro e2 w2 ⟨g, h, rfl, hs2, hg2⟩)
  have HS2 := Lib.hid hs2
  obtain ⟨xl, x0, x1, x2, x3, x4, x5⟩ := nm_in (HB.out.grew hg2)
  clear hs2 hg2 HNew
  go_upto_region 3 with fail
  clear xl x0 x1 x2 x3 x4 x5
  go_loopw [10] (fun i wr => ClsAt W1 g h l i wr) (fun i _ => l.length - (intOf i).toNat)
  case atStart => exact ⟨0, Nat.zero_le _, rfl, by rw [List.take_zero]; exact HS2.out⟩
  case round =>
    obtain ⟨i, hi, rfl, hs⟩ := hrel
    have HS := Lib.hid hs
    have hg := hs.grew
    have hgl := hs.lt
    clear hs
    by_cases hlt : i < l.length
    · have HT := Lib.hid (clsE_take l i hlt)
      obtain ⟨b, o, rfl, hb0, a0, a1, a2, a3⟩ := edsR_at ((H2.out.grew HG0.out).grew hg) hlt
      clear hg
      generalize l[i] = y at *
      generalize clsE (l.take i) = r at *
      go_upto_region 5 with fail
      have HBe : Hid (Blok (wr.alloc (.cells #[.int .i64 y.a, .int .i64 y.ac, .int .i64 y.b, .int .i64 y.bc] 34)) wr.heap.size 34 #[.int .i64 y.a, .int .i64 y.ac, .int .i64 y.b, .int .i64 y.bc]) := Lib.hid (Blok.new _ _ _ _ rfl)
      have HS4 : Hid (UfS W1 g h 128 r (wr.alloc (.cells #[.int .i64 y.a, .int .i64 y.ac, .int .i64 y.b, .int .i64 y.bc] 34))) := Lib.hid (HS.out.on ((Grew.refl wr).alloc _))
      clear hb0 a0 a1 a2 a3 HS
      generalize (wr.alloc (.cells #[.int .i64 y.a, .int .i64 y.ac, .int .i64 y.b, .int .i64 y.bc] 34)) = W4 at *
      generalize wr.heap.size = be at *
      have HC1 : Hid (∀ W, Gives Try.prog 25 #[.int .i64 y.a, .int .i64 y.ac] W (.int .i64 (columnI y.a y.ac))) := Lib.hid fun W => column_any _ _ W
      have HC2 : Hid (∀ W, Gives Try.prog 25 #[.int .i64 y.b, .int .i64 y.bc] W (.int .i64 (columnI y.b y.bc))) := Lib.hid fun W => column_any _ _ W
      have HJ : Hid (∀ W, UfS W1 g h 128 r W → Calls Try.prog 51 #[.pointer (some ⟨g, 0, none⟩), .int .i64 (columnI y.a y.ac), .int .i64 (columnI y.b y.bc)] W fun e w' => e = .returned (.bool (joinsB 128 r (columnI y.a y.ac) (columnI y.b y.bc))) ∧ UfS W1 g h 128 (joinI 128 r (columnI y.a y.ac) (columnI y.b y.bc)) w' ∧ Keep2 W w' g h) := Lib.hid fun W hW => uf_join _ _ _ W g h 128 r _ hW _ rfl rfl
      generalize joinsB 128 r (columnI y.a y.ac) (columnI y.b y.bc) = t at *
      generalize joinI 128 r (columnI y.a y.ac) (columnI y.b y.bc) = r' at *
      generalize columnI y.a y.ac = x1 at *
      generalize columnI y.b y.bc = x2 at *
      have hS0 := HBe.out.grew (Grew.refl W4).drew
      have hU0 := HS4.out.on (Grew.refl W4).drew
      refine wp_region_S (fun W => Blok W be 34 #[.int .i64 y.a, .int .i64 y.ac, .int .i64 y.b, .int .i64 y.bc]) (by kernel_rfl) ?_
      refine held_take 0 (v := ?_) rfl (by kernel_rfl) (by kernel_rfl) (by kernel_rfl) (fun _ _ _ h => h) (by rfl) ?_ hS0 ?_
      rotate_left
      · (intro W hW; obtain ⟨r0, d0, d1, d2, d3, _, _, _, _⟩ := ed_in hW; go_simp; with_reducible rfl)
      refine held_take 1 (v := ?_) rfl (by kernel_rfl) (by kernel_rfl) (by kernel_rfl) (fun _ _ _ h => h) (by rfl) ?_ hS0 ?_
      rotate_left
      · (intro W hW; obtain ⟨r0, d0, d1, d2, d3, _, _, _, _⟩ := ed_in hW; go_simp; with_reducible rfl)
      refine held_take 2 (v := ?_) rfl (by kernel_rfl) (by kernel_rfl) (by kernel_rfl) (fun _ _ _ h => h) (by rfl) ?_ hS0 ?_
      rotate_left
      · (intro W hW; obtain ⟨r0, d0, d1, d2, d3, _, _, _, _⟩ := ed_in hW; go_simp; with_reducible rfl)
      refine held_take 3 (v := ?_) rfl (by kernel_rfl) (by kernel_rfl) (by kernel_rfl) (fun _ _ _ h => h) (by rfl) ?_ hS0 ?_
      rotate_left
      · (intro W hW; obtain ⟨r0, d0, d1, d2, d3, _, _, _, _⟩ := ed_in hW; go_simp; with_reducible rfl)
      refine held_take 4 (v := ?_) rfl (by kernel_rfl) (by kernel_rfl) (by kernel_rfl) (fun _ _ _ h => h) (by rfl) ?_ hS0 ?_
      rotate_left
      · (intro W hW; obtain ⟨r0, d0, d1, d2, d3, _, _, _, _⟩ := ed_in hW; go_simp; with_reducible rfl)
      refine held_take 6 (v := ?_) rfl (by kernel_rfl) (by kernel_rfl) (by kernel_rfl) (fun _ _ _ h => h) (by rfl) ?_ hS0 ?_
      rotate_left
      · (intro W hW; obtain ⟨r0, d0, d1, d2, d3, _, _, _, _⟩ := ed_in hW; go_simp; with_reducible rfl)
      refine held_take 7 (v := ?_) rfl (by kernel_rfl) (by kernel_rfl) (by kernel_rfl) (fun _ _ _ h => h) (by rfl) ?_ hS0 ?_
      rotate_left
      · (intro W hW; obtain ⟨r0, d0, d1, d2, d3, _, _, _, _⟩ := ed_in hW; go_simp; with_reducible rfl)
      refine held_take 8 (v := ?_) rfl (by kernel_rfl) (by kernel_rfl) (by kernel_rfl) (fun _ _ _ h => h) (by rfl) ?_ hS0 ?_
      rotate_left
      · (intro W hW; obtain ⟨r0, d0, d1, d2, d3, _, _, _, _⟩ := ed_in hW; go_simp; with_reducible rfl)
      refine held_take 9 (v := ?_) rfl (by kernel_rfl) (by kernel_rfl) (by kernel_rfl) (fun _ _ _ h => h) (by rfl) ?_ hS0 ?_
      rotate_left
      · (intro W hW; obtain ⟨r0, d0, d1, d2, d3, _, _, _, _⟩ := ed_in hW; go_simp; with_reducible rfl)
      refine held_norm (a' := ?_) ?_ ?_
      rotate_left
      · (go_simp; with_reducible rfl)
      refine held_call 5 (by kernel_rfl) rfl (by rfl) (fun K hK => ?_)
      go_simp
      go_wp2_with ((go_at_call 25; (with_reducible refine (HC1.out _).grows.mono ?_); rintro e3 w3 ⟨rfl, hg3⟩; have hS3 := hS0.grew hg3))
      refine hK.out _ _ hS3 ?_
      clear hK K
      refine held_call 10 (by kernel_rfl) rfl (by rfl) (fun K hK => ?_)
      go_simp
      go_wp2_with ((go_at_call 25; (with_reducible refine (HC2.out _).grows.mono ?_); rintro e4 w4 ⟨rfl, hg4⟩; have hS4 := hS3.grew hg4; have hU4 := hU0.on (hg3.trans hg4)))
      refine hK.out _ _ hS4 ?_
      clear hK K
      refine held_call 11 (by kernel_rfl) rfl (by rfl) (fun K hK => ?_)
      go_simp
      go_wp2_with ((go_at_call 51; (with_reducible refine (HJ.out _ hU4).mono ?_); rintro e5 w5 ⟨rfl, hU5, hk5⟩; have hS5 := hS4.keepB hk5 (by omega) (by omega)))
      refine hK.out _ _ hS5 ?_
      clear hK K
      refine held_done (by kernel_rfl) ?_
      have HU5 := Lib.hid hU5
      clear hS5 hU5 hk5 hU4 hS4 hg4 hg3 hS3 hS0 hU0
      go_wp2
      exact ⟨⟨i + 1, by omega, by go_num, by rw [HT.out]; exact HU5.out⟩, by simp only [intOf]; omega⟩
    · obtain rfl : i = l.length := by omega
      rw [List.take_length] at HS
      clear hg
      go_wp2
      go_ret
      exact ⟨g, h, rfl, HS.out.up HG0.out⟩
end Go.Proofs.Ytchogpdfdpbpfaa
