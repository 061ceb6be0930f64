/- Layer 21: degrees, whether rising, sets, by the program. Condition: no more than a million numbers. -/
import Derived.Test.YtchogpdfdpbpfaaQNa
import Derived.Maps.OwnSet
import Derived.Maps.RangeWalk
import Derived.Test.YtchogpdfdpbpfaaReadW
import Derived.Test.YtchogpdfdpbpfaaQNb
import Derived.Deep.QuietTactic
import Derived.Test.YtchogpdfdpbpfaaUfAll2
import Derived.Test.YtchogpdfdpbpfaaApp2
import Derived.Maps.Own
import Derived.DeepKeys4
import Derived.Test.YtchogpdfdpbpfaaUfMath
import Derived.Test.YtchogpdfdpbpfaaUfCls
import Derived.Maps.OwnOps
import Derived.Deep.OwnRows
import Derived.Test.YtchogpdfdpbpfaaUfAll

/- Layer 21: the page's example; the law of two sets. Condition: numbers that an int holds. -/
/- Sets of numbers of one's own: maps without elements. Condition: fewer numbers than lengths go. -/
namespace Go.Proofs.Ytchogpdfdpbpfaa
open Go.RowKit Go.Maps

def wfI (x : Int) : Prop := (Lit.int .i64 x).wf = true
theorem law_int : Keyed Try.prog 3 := int_keyed Try.underlying3
theorem key_int {x : Int} (h : wfI x) : keyOf Try.prog 3 (.int .i64 x) = some (.int .i64 x) := keyOf_int_mk Try.underlying3 h
theorem sameK (x y : Int) : (Lit.int .i64 x).sameKey (Lit.int .i64 y) = (x == y) := by
  by_cases h : x = y
  · subst h
    rw [WideAt.sameKey_self (a := .int .i64 x) (by trivial)]
    simp
  · rw [sameKey_ne (fun e => h (by injection e))]
    simp [h]
/-- Block b is a set of just the numbers of L. -/
def SetL (w : World) (b : Nat) (L : List Int) : Prop := ∃ (n : Nat) (D : DataW Unit), n ≤ L.length ∧ w.ownsMap Try.prog 3 unitElem b n D ∧ ∀ x, wfI x → (Maps.has D (.int .i64 x) = true ↔ x ∈ L)
theorem SetL.lt {w : World} {b : Nat} {L : List Int} (h : SetL w b L) : b < w.heap.size := by
  obtain ⟨n, D, _, h, _⟩ := h
  exact h.lt
theorem SetL.kept {w w' : World} {b : Nat} {L : List Int} {row : Option Nat} (h : SetL w b L) (g : w.grownBy w' row) (hr : some b ≠ row) : SetL w' b L := by
  obtain ⟨n, D, hn, h, k⟩ := h
  exact ⟨n, D, hn, h.kept g hr, k⟩
theorem SetL.grew {w w' : World} {b : Nat} {L : List Int} (h : SetL w b L) (g : Grew w w') : SetL w' b L := by
  obtain ⟨n, D, hn, ⟨es, clock, hb, hr⟩, k⟩ := h
  obtain ⟨x, rfl⟩ := g
  refine ⟨n, D, hn, ⟨es, clock, ?_, hr⟩, k⟩
  rw [more_block _ _ _ (heap_lt hb)]
  exact hb
theorem set_new (w : World) (b : Nat) (hb : b = w.heap.size) : SetL (w.alloc (.map #[] 0)) b [] := by
  subst hb
  exact ⟨0, .map [], Nat.le_refl _, World.ownsMap_made w _ _ _, fun x _ => by simp [Maps.has]⟩
section
variable {w : World} {ops : Array Oper} {rest : List Oper} {o : Oper} {a : Act} {Q : Exit → Act → World → Prop} {b : Nat} {L : List Int}
theorem zero_unit (w : World) : (zeroValue 90).run Try.prog w = .ok (.agg #[]) w := by kernel_rfl
/-- 's[x] = struct{}{}'. -/
theorem wpList_sput (hg : o.guard = none) (m x v : Operand) (hop : o.op = Op.mapUpdate 89 m x v) (hm : a.eval m = .map (some b)) (h : SetL w b L) (hL : L.length ≤ 1000000) (z : Int) (hz : wfI z) (hx : a.eval x = .int .i64 z) (hv : a.eval v = .agg #[])
    (hK : ∀ w', SetL w' b (L ++ [z]) → w.grownBy w' (some b) → wpList Try.prog ops Q rest (a.put o.dst undef) w') : wpList Try.prog ops Q (o :: rest) a w := by
  obtain ⟨n, D, hn, h, k⟩ := h
  refine wpList_mapUpdate_own w hg m x v 89 hop 3 90 law_int Try.underlying89 unitElem b n D hm h (by unfold maxLen; omega) (.int .i64 z) (.agg #[]) (.int .i64 z) hx hv (key_int hz) (.agg []) [] unitElem_mk ?_
  intro w' h' hg'
  refine hK w' ⟨n + 1, _, by simp; omega, h', fun y hy => ?_⟩ hg'
  by_cases e : y = z
  · subst e
    rw [has_put_same h.isMap (law_int.key (key_int hy))]
    simp
  · rw [has_put_other (fun e' => e (by injection e')), k y hy]
    simp [e]
/-- '_, ok := s[x]'. -/
theorem wpList_shas (hg : o.guard = none) (m x : Operand) (hop : o.op = Op.lookup 89 m x true) (hm : a.eval m = .map (some b)) (h : SetL w b L) (z : Int) (hz : wfI z) (hx : a.eval x = .int .i64 z)
    (hK : wpList Try.prog ops Q rest (a.put o.dst (.tuple #[.agg #[], .bool (decide (z ∈ L))])) w) : wpList Try.prog ops Q (o :: rest) a w := by
  obtain ⟨n, D, hn, h, k⟩ := h
  refine wpList_lookup_own_unit w hg m x 89 hop 3 90 law_int Try.underlying89 (zero_unit w) b n D hm h (.int .i64 z) (.int .i64 z) hx (key_int hz) ?_
  have e : Maps.has D (.int .i64 z) = decide (z ∈ L) := by
    have := k z hz
    cases h1 : Maps.has D (.int .i64 z)
    · exact (decide_eq_false (fun h2 => by rw [this.2 h2] at h1; cases h1)).symm
    · exact (decide_eq_true (this.1 h1)).symm
  rw [e]
  exact hK
/-- 'len(s)'. -/
theorem wpList_slen (hg : o.guard = none) (m : Operand) (hop : o.op = Op.call { callee := Callee.builtin Builtin.len, args := #[m], argTypes := #[89] }) (hm : a.eval m = .map (some b)) (h : SetL w b L)
    (hK : ∀ n : Nat, n ≤ L.length → wpList Try.prog ops Q rest (a.put o.dst (.int .i64 n)) w) : wpList Try.prog ops Q (o :: rest) a w := by
  obtain ⟨n, D, hn, h, k⟩ := h
  exact wpList_len_own w hg m 89 hop 3 90 Try.underlying89 unitElem b n D hm h (hK _ (Nat.le_trans h.size_le hn))
end
/-- A set that is ranged over: which numbers are still to come, and how many. -/
def SetR (w : World) (b r : Nat) (L : List Int) (left : Int → Bool) (cnt : Nat) : Prop := ∃ (n : Nat) (D : DataW Unit) (lf : Lit → Bool), n ≤ L.length ∧ w.ranges Try.prog 3 unitElem b r n D lf cnt ∧ cnt ≤ L.length ∧
  (∀ x, wfI x → (Maps.has D (.int .i64 x) = true ↔ x ∈ L)) ∧ (∀ x, wfI x → lf (.int .i64 x) = left x) ∧ ∀ x, wfI x → left x = true → x ∈ L
theorem SetR.set {w : World} {b r cnt : Nat} {L : List Int} {left : Int → Bool} (h : SetR w b r L left cnt) : SetL w b L := by
  obtain ⟨n, D, lf, hn, h, _, k, _⟩ := h
  exact ⟨n, D, hn, h.owns, k⟩
theorem SetR.kept {w w' : World} {b r cnt : Nat} {L : List Int} {left : Int → Bool} {row : Option Nat} (h : SetR w b r L left cnt) (g : w.grownBy w' row) (hb : some b ≠ row) (hr : some r ≠ row) : SetR w' b r L left cnt := by
  obtain ⟨n, D, lf, hn, h, k⟩ := h
  exact ⟨n, D, lf, hn, h.kept g hb hr, k⟩
theorem SetR.grew {w w' : World} {b r cnt : Nat} {L : List Int} {left : Int → Bool} (h : SetR w b r L left cnt) (g : Grew w w') : SetR w' b r L left cnt := by
  refine h.kept (row := none) ?_ (by simp) (by simp)
  have hb := g.below
  exact ⟨hb.os, hb.tape, hb.output, hb.size, fun i hi _ => hb.block i hi⟩
theorem SetR.lt {w : World} {b r cnt : Nat} {L : List Int} {left : Int → Bool} (h : SetR w b r L left cnt) : b < w.heap.size ∧ r < w.heap.size := by
  obtain ⟨n, D, lf, hn, h, _⟩ := h
  exact ⟨h.owns.lt, h.lt⟩
section
variable {w : World} {ops : Array Oper} {rest : List Oper} {o : Oper} {a : Act} {Q : Exit → Act → World → Prop} {b : Nat} {L : List Int}
/-- 'range s'. -/
theorem wpList_srange (hg : o.guard = none) (m : Operand) (hop : o.op = Op.range 89 m) (hm : a.eval m = .map (some b)) (h : SetL w b L)
    (hK : ∀ w' cnt, SetR w' b w.heap.size L (fun x => decide (x ∈ L)) cnt → w.grownBy w' none → w'.heap.size = w.heap.size + 1 → wpList Try.prog ops Q rest (a.put o.dst (.pointer (some ⟨w.heap.size, 0, none⟩))) w') : wpList Try.prog ops Q (o :: rest) a w := by
  obtain ⟨n, D, hn, h, k⟩ := h
  refine wpList_range_own w hg m 89 hop 3 90 law_int Try.underlying89 unitElem b n D hm h ?_
  intro w' h1 h2 h3
  refine hK w' _ ⟨n, D, Maps.has D, hn, h1, Nat.le_trans h.size_le hn, k, fun x hx => ?_, fun x _ hl => by simpa using hl⟩ h2 h3
  have := k x hx
  cases h4 : Maps.has D (.int .i64 x)
  · exact (decide_eq_false (fun h5 => by rw [this.2 h5] at h4; cases h4)).symm
  · exact (decide_eq_true (this.1 h4)).symm
/-- The step: nothing is left, or one comes, whichever. -/
theorem wpList_snext (hg : o.guard = none) (it : Operand) (hop : o.op = Op.next it false) (r : Nat) (left : Int → Bool) (cnt : Nat) (hit : a.eval it = .pointer (some ⟨r, 0, none⟩)) (h : SetR w b r L left cnt)
    (hDone : (∀ x, wfI x → left x = false) → wpList Try.prog ops Q rest (a.put o.dst (.tuple #[.bool false])) w)
    (hMore : ∀ (x : Int) (w' : World) (cnt' : Nat), wfI x → left x = true → x ∈ L → SetR w' b r L (fun y => left y && !(y == x)) cnt' → cnt' < cnt → w.grownBy w' (some r) → w'.heap.size = w.heap.size →
      (Instr.entry (.pointer (some ⟨r, 0, none⟩))).run Try.prog w' = .ok (.tuple #[.int .i64 x, .agg #[]]) w' → wpList Try.prog ops Q rest (a.put o.dst (.tuple #[.bool true, .int .i64 x, .agg #[]])) w') : wpList Try.prog ops Q (o :: rest) a w := by
  obtain ⟨n, D, lf, hn, h, hc, k, kl, ks⟩ := h
  refine wpList_next_ranges (α := Int) (β := Unit) w hg it hop 3 law_int unitElem (Value.int .i64) (fun _ => .agg #[]) (fun key kl hkey => by obtain ⟨x, rfl, _⟩ := Maps.keyOf_int_inv Try.underlying3 hkey; exact ⟨x, rfl⟩) (fun v y hv => ⟨(), (unitElem_inv hv).1⟩)
    b r n D lf cnt hit h ?_ ?_
  · intro _ hl
    exact hDone fun x hx => by rw [← kl x hx]; exact hl _
  · intro x _ kl' y w' cnt' hkey hlx _ _ h1 h2 h3 h4 h5
    obtain ⟨x', ex, rfl, hwx⟩ := Maps.keyOf_int_inv Try.underlying3 hkey
    injection ex with _ ex
    subst ex
    have hl : left x = true := by rw [← kl x hwx]; exact hlx
    refine hMore x w' cnt' hwx hl (ks x hwx hl) ⟨n, D, _, hn, h1, by omega, k, fun z hz => ?_, fun z hz hlz => ks z hz (by simp at hlz; exact hlz.1)⟩ h2 h3 h4 h5
    simp only
    rw [kl z hz, sameK]
end
end Go.Proofs.Ytchogpdfdpbpfaa

/- Lists of numbers in a list, in memory. No condition. -/
namespace Go.Proofs.Ytchogpdfdpbpfaa
open Go.RowKit

def IlR (R : Rw) (l : List Int) (cs : List Value) : Prop := ∃ A k, cs = [.slice A l.length k] ∧ R 3 A (iV l)
def GridI (R : Rw) (A : Option Addr) (h : List (List Int)) : Prop := ∃ css, ListR (IlR R) 1 h css ∧ R 37 A css.flatten
theorem IlR.imp {R R' : Rw} {l : List Int} {cs : List Value} (h : IlR R l cs) (H : ∀ A xs, R 3 A xs → R' 3 A xs) : IlR R' l cs := by
  obtain ⟨A, k, h1, h2⟩ := h
  exact ⟨A, k, h1, H _ _ h2⟩
theorem GridI.imp {R R' : Rw} {A : Option Addr} {h : List (List Int)} (k : GridI R A h) (H : ∀ e A xs, R e A xs → R' e A xs) : GridI R' A h := by
  obtain ⟨css, h1, h2⟩ := k
  exact ⟨css, h1.map (fun x cs hr => hr.imp (H _)), H _ _ _ h2⟩
theorem GridI.grew {w w' : World} {A : Option Addr} {h : List (List Int)} (k : GridI (PRow w) A h) (g : Grew w w') : GridI (PRow w') A h := k.imp fun _ _ _ h => Row.grew h g
theorem gridI_at {w : World} {A : Option Addr} {h : List (List Int)} (k : GridI (PRow w) A h) {i : Nat} (hi : i < h.length) :
    ∃ b o B c, A = some ⟨b, o, none⟩ ∧ b < w.heap.size ∧ w.cell? ⟨b, o + i, none⟩ = some (.slice B h[i].length c) ∧ Row w B (iV h[i]) := by
  obtain ⟨css, h1, h2⟩ := k
  obtain ⟨b, o, cs, hA, hb, hr, _, hc⟩ := h1.at_ h2 (by decide) hi
  obtain ⟨B, c, rfl, hx⟩ := hr
  have := hc 0 _ rfl
  rw [Nat.mul_one] at this
  exact ⟨b, o, B, c, hA, hb, this, hx⟩
theorem gridI_nil (w : World) (A : Option Addr) : GridI (PRow w) A [] := ⟨[], ListR.nil, Or.inl rfl⟩
theorem gridI_one (w : World) (B : Option Addr) (l : List Int) (c : Nat) (hr : Row w B (iV l)) : GridI (PRow (w.alloc (.cells #[.slice B l.length c] 37))) (some ⟨w.heap.size, 0, none⟩) [l] := by
  refine ⟨[[.slice B l.length c]], ?_, row_new _ _ _ _ rfl⟩
  have := (ListR.nil (R := IlR (PRow (w.alloc (.cells #[.slice B l.length c] 37)))) (size := 1)).snoc (x := l) (cs := [.slice B l.length c]) ⟨B, c, rfl, row_alloc hr _⟩ rfl
  simpa using this
def wfL (l : List Int) : Prop := ∀ x ∈ l, wfI x
def wfG (h : List (List Int)) : Prop := ∀ l ∈ h, wfL l
theorem flat_take {h : List (List Int)} {j : Nat} (hj : j < h.length) : (h.take (j + 1)).flatten = (h.take j).flatten ++ h[j] := by
  rw [List.take_succ_eq_append_getElem hj, List.flatten_append]
  simp
theorem flat_le (h : List (List Int)) (j : Nat) : ((h.take j).flatten).length ≤ h.flatten.length := by
  have := congrArg List.length (congrArg List.flatten (List.take_append_drop j h))
  rw [List.flatten_append, List.length_append] at this
  omega
section
variable {H : Type} {enc : TypeId × Value → H} {W : World}
theorem rdw_grid : RdW enc Try.prog W 59 1 (fun (h : List (List Int)) cs => ∃ A c, cs = [.slice A h.length c] ∧ h.length ≤ 1000000000000000 ∧ GridI (PRow W) A h ∧ ∀ l ∈ h, wfL l) := by
  have h1 : RdW enc Try.prog W 37 1 (fun (l : List Int) cs => IlR (PRow W) l cs ∧ wfL l) :=
    rdw_map (rdw_slice Try.underlying37 (by kernel_rfl) (by decide) (bytes := 8) (by kernel_rfl) rdw_iS) fun l cs ⟨A, c, css, h1, _, _, _, h3, h4⟩ => ⟨⟨A, c, h1, (nums_row h3 h4).1⟩, fun x hx => (nums_row h3 h4).2 x hx⟩
  exact rdw_map (rdw_slice Try.underlying59 (by kernel_rfl) (by decide) (bytes := 24) (by kernel_rfl) h1) fun h cs ⟨A, c, css, h1, h2, _, h5, h3, h4⟩ => ⟨A, c, h1, by unfold reachBytes at h5; omega, ⟨css, h3.each.1, h4⟩, h3.each.2⟩
end
end Go.Proofs.Ytchogpdfdpbpfaa

/- Layer 21: sets of numbers, by the program: made of lists, asked, told in order. Condition: no more than a million numbers. -/
namespace Go.Proofs.Ytchogpdfdpbpfaa
open Go.RowKit
attribute [local go_sem] more_cell more_frozen more_more more_setCell more_of_drew more_of_drewN lt_more le_more past_cell past_cell2 past_frozen past_frozen2 past_setCell past_setCell2 mid_cell mid_frozen mid_setCell
attribute [local go_sem ↓] Go.wp_at_zero Go.wp_at_succ

def SoAt (u : World) (b : Nat) (h : List (List Int)) (i : Value) (wr : World) : Prop := ∃ j : Nat, j ≤ h.length ∧ i = .int .i64 j ∧ Grew u wr ∧ SetL wr b (h.take j).flatten
def SoIn (u : World) (b : Nat) (L l : List Int) (i : Value) (wr : World) : Prop := ∃ j : Nat, j ≤ l.length ∧ i = .int .i64 j ∧ Grew u wr ∧ SetL wr b (L ++ l.take j)
/-- A set that is handed back. -/
def SetFg (w : World) (L : List Int) (e : Ending) (w' : World) : Prop := ∃ b, e = .returned (.map (some b)) ∧ w.heap.size ≤ b ∧ Grew w w' ∧ SetL w' b L
theorem grew_map {u w w' : World} {b : Nat} (g : Grew u w) (hb : u.heap.size ≤ b) (h : w.grownBy w' (some b)) : Grew u w' := g.grown h fun k hk => by cases hk; exact hb
set_option maxHeartbeats 2000000 in
set_option maxRecDepth 100000 in
theorem setof_any (h : List (List Int)) (A : Option Addr) (k : Nat) (hw : wfG h) (hl : h.length ≤ 1000000) (hf : h.flatten.length ≤ 1000000) (w : World) (ra : GridI (PRow w) A h) :
    Calls Try.prog 61 #[.slice A h.length k] w (SetFg w h.flatten) := by
  have RA := Lib.hid ra
  have HW := Lib.hid hw
  have HF : Hid (∀ j, ((h.take j).flatten).length ≤ 1000000) := Lib.hid fun j => Nat.le_trans (flat_le h j) hf
  have hmm := @run_makeMap Try.prog
  have HS0 := Lib.hid (set_new w w.heap.size rfl)
  clear ra hw hf
  go_enter Try.func61, Try.ntmps61
  go_wp2
  have hgb : w.heap.size ≤ w.heap.size := Nat.le_refl _
  have HG0 : Hid (Grew w (w.alloc (.map #[] 0))) := Lib.hid ((Grew.refl w).alloc _)
  go_loopw [11] (fun i wr => SoAt w w.heap.size h i wr) (fun i _ => h.length - (intOf i).toNat)
  case atStart => exact ⟨0, Nat.zero_le _, rfl, HG0.out, by simpa using HS0.out⟩
  case round =>
    obtain ⟨j, hj, rfl, hg, hs⟩ := hrel
    have HG := Lib.hid hg
    have HS := Lib.hid hs
    clear hg hs HS0 HG0
    by_cases h1 : j < h.length
    · obtain ⟨b, o, B, c, rfl, hb0, hc0, hr⟩ := gridI_at RA.out h1
      have hb := Nat.lt_of_lt_of_le hb0 HG.out.size
      have hc := (HG.out.cell (a := ⟨b, o + j, none⟩) hb0).trans hc0
      have HR := Lib.hid hr
      have HN := Lib.hid (flat_take h1)
      have HWl := Lib.hid (HW.out _ (List.getElem_mem h1))
      have hlen : ((h.take j).flatten).length + h[j].length ≤ 1000000 := by
        have := HF.out (j + 1)
        rw [HN.out, List.length_append] at this
        exact this
      clear hr hc0 hb0
      generalize (h.take j).flatten = L at *
      generalize h[j] = l at *
      go_wp2
      go_loopw [17] (fun i wx => SoIn w w.heap.size L l i wx) (fun i _ => l.length - (intOf i).toNat)
      case atStart => exact ⟨0, Nat.zero_le _, rfl, HG.out, by simpa using HS.out⟩
      case round =>
        obtain ⟨q, hq, rfl, hgx, hsx⟩ := hrel
        have HGX := Lib.hid hgx
        have HSX := Lib.hid hsx
        clear hgx hsx hb hc
        by_cases h2 : q < l.length
        · obtain ⟨b2, o2, rfl, hb2, hc2⟩ := rowI_at (HR.out.grew HGX.out) h2
          have HZ := Lib.hid (HWl.out _ (List.getElem_mem h2))
          have HT : Hid (L ++ l.take (q + 1) = (L ++ l.take q) ++ [l[q]]) := Lib.hid (by rw [List.take_succ_eq_append_getElem h2, List.append_assoc])
          have hll : (L ++ l.take q).length ≤ 1000000 := by
            rw [List.length_append, List.length_take]
            omega
          generalize l[q] = z at *
          go_wp2_with (at_mapUpdate; refine wpList_sput rfl _ _ _ rfl rfl HSX.out hll z HZ.out rfl rfl ?_; intro w9 hs9 hg9; have HS9 := Lib.hid hs9; have HG9 := Lib.hid (grew_map HGX.out (Nat.le_refl _) hg9); clear hs9 hg9)
          exact ⟨⟨q + 1, by omega, by go_num, HG9.out, by rw [HT.out]; exact HS9.out⟩, by simp only [intOf]; omega⟩
        · obtain rfl : q = l.length := by omega
          rw [List.take_length] at HSX
          go_wp2
          exact ⟨⟨j + 1, by omega, by go_num, HGX.out, by rw [HN.out]; exact HSX.out⟩, by simp only [intOf]; omega⟩
    · obtain rfl : j = h.length := by omega
      rw [List.take_length] at HS
      go_wp2
      go_ret
      exact ⟨_, rfl, Nat.le_refl _, HG.out, HS.out⟩
end Go.Proofs.Ytchogpdfdpbpfaa

/- Layer 21: a set's numbers, in order; what two share; vertices. Condition: no more than a million numbers. -/
namespace Go.Proofs.Ytchogpdfdpbpfaa
open Go.RowKit
attribute [local go_sem] more_cell more_frozen more_more more_setCell more_of_drew more_of_drewN lt_more le_more past_cell past_cell2 past_frozen past_frozen2 past_setCell past_setCell2 mid_cell mid_frozen mid_setCell
attribute [local go_sem ↓] Go.wp_at_zero Go.wp_at_succ

/-- Numbers of a set, as far as they have come, in a row of one's own. -/
structure RisS (u : World) (b r base : Nat) (L : List Int) (left : Int → Bool) (cnt : Nat) (A : Option Addr) (c : Nat) (l : List Int) (wr : World) : Prop where
  grew : Grew u wr
  set : SetR wr b r L left cnt
  own : wr.ownsRow base 3 1 (.slice A l.length c) l.length (iV l)
  nodup : l.Nodup
  mem : ∀ x, wfI x → (x ∈ l ↔ x ∈ L ∧ left x = false)
  wf : wfL l
  few : l.length + cnt ≤ L.length
def RisAt (u : World) (b r base : Nat) (L : List Int) (v : Value) (wr : World) : Prop := ∃ (left : Int → Bool) (cnt : Nat) (A : Option Addr) (c : Nat) (l : List Int), v = .slice A l.length c ∧ RisS u b r base L left cnt A c l wr
def cntOf (w : World) (b r : Nat) : Nat := w.rangeLeft b r
theorem SetR.left_eq {w : World} {b r cnt : Nat} {L : List Int} {left : Int → Bool} (h : SetR w b r L left cnt) : cntOf w b r = cnt := by
  obtain ⟨n, D, lf, hn, h, _⟩ := h
  exact h.left_eq
theorem SetR.apart {w : World} {b r cnt : Nat} {L : List Int} {left : Int → Bool} (h : SetR w b r L left cnt) {base size n : Nat} {e : TypeId} {v : Value} {xs : List Value} (ho : w.ownsRow base e size v n xs) : ∀ k, v.ownBlock = some k → k ≠ b ∧ k ≠ r := by
  obtain ⟨_, D, lf, _, ⟨es, clock, since, seen, c0, hb, _, _, _, hr, _⟩, _⟩ := h
  intro k hk
  rcases ho.2 with ⟨rfl, _⟩ | ⟨g, cap, cur, rfl, _, hh, _⟩
  · cases hk
  · simp [Value.ownBlock] at hk
    subst hk
    refine ⟨fun e => ?_, fun e => ?_⟩
    · subst e; rw [hb] at hh; cases hh
    · subst e; rw [hr] at hh; cases hh
theorem RisS.step {u wr w1 w2 : World} {b r base cnt cnt' : Nat} {L : List Int} {left : Int → Bool} {A A' : Option Addr} {c c' : Nat} {l : List Int} {x : Int} (h : RisS u b r base L left cnt A c l wr) (hb : u.heap.size ≤ r) (hu : u.heap.size ≤ base)
    (hx : wfI x) (hl : left x = true) (hL : x ∈ L) (hs : SetR w1 b r L (fun y => left y && !(y == x)) cnt') (hc : cnt' < cnt) (hg : wr.grownBy w1 (some r))
    (ho : w2.ownsRow base 3 1 (.slice A' (l.length + 1) c') (l.length + 1) (iV l ++ [.int .i64 x])) (o : Obj) (hg2 : (w1.alloc o).grownBy w2 (Value.slice A l.length c).ownBlock) :
    RisS u b r base L (fun y => left y && !(y == x)) cnt' A' c' (l ++ [x]) w2 := by
  have hrow : ∀ k, (Value.slice A l.length c).ownBlock = some k → base ≤ k := own_base h.own
  have hnx : x ∉ l := fun hm => by have := (h.mem x hx).1 hm; rw [hl] at this; exact absurd this.2 (by simp)
  refine ⟨((grew_map h.grew hb hg).alloc o).grown hg2 fun k hk => Nat.le_trans hu (hrow k hk), (hs.grew ((Grew.refl w1).alloc o)).kept hg2 (fun e => (h.set.apart h.own _ e.symm).1 rfl) (fun e => (h.set.apart h.own _ e.symm).2 rfl), ?_, ?_, fun y hy => ?_, ?_, ?_⟩
  · rw [List.length_append]
    rw [iV_snoc] at ho
    exact ho
  · rw [List.nodup_append]
    exact ⟨h.nodup, by simp, fun a ha b hb e => by simp at hb; subst hb; subst e; exact hnx ha⟩
  · rw [List.mem_append, h.mem y hy, List.mem_singleton]
    by_cases e : y = x
    · subst e
      simp [hL]
    · simp [e]
  · intro y hy
    rcases List.mem_append.1 hy with hy | hy
    · exact h.wf y hy
    · rw [List.mem_singleton.1 hy]; exact hx
  · rw [List.length_append]
    have := h.few
    simp
    omega
set_option maxHeartbeats 2000000 in
set_option maxRecDepth 100000 in
theorem rising_any (b : Nat) (L : List Int) (hL : wfL L) (hl : L.length ≤ 1000000) (w : World) (hs : SetL w b L) :
    Calls Try.prog 58 #[.map (some b)] w (OwnI w (setI L)) := by
  have HS := Lib.hid hs
  have hbl := hs.lt
  have HW := Lib.hid hL
  obtain ⟨i0, hi, hz0, hz1, hz2⟩ := info_parts infoI
  have HI := Lib.hid hi
  have HI0 := Lib.hid hz0
  have HI1 := Lib.hid hz1
  have HI2 := Lib.hid hz2
  clear hs hL hi hz0 hz1 hz2
  go_enter Try.func58, Try.ntmps58
  go_wp2_with (first | (at_len; refine wpList_slen rfl _ rfl rfl HS.out ?_; intro n hn) | (at_make; refine wpList_make_cap _ rfl _ _ 37 rfl 3 i0 (.int .i64 0) Try.underlying37 HI.out HI0.out HI1.out rfl _ _ n rfl rfl (by rw [HI2.out]; omega) (by omega) ?_) | (at_range; refine wpList_srange rfl _ rfl rfl (HS.out.grew ((Grew.refl w).alloc _)) ?_; intro w1 cnt hr1 hg1 hs1))
  go_frame
  have e1 : (w.alloc (.cells (madeCells #[.int .i64 0] n) 3)).heap.size = w.heap.size + 1 := by simp
  rw [e1] at hr1 hs1 ⊢
  have HO1 : Hid (w1.ownsRow w.heap.size 3 1 (.slice (some ⟨w.heap.size, 0, none⟩) 0 n) 0 (iV [])) := Lib.hid (own_grown ⟨rfl, Or.inr ⟨w.heap.size, n, madeCells #[.int .i64 0] n, rfl, Nat.le_refl _, heap_alloc_new w _, Nat.zero_le _, by unfold maxLen; omega, by simp [size_madeCells], by simp [iV]⟩⟩ hg1 (by simp))
  have HR0 : Hid (RisS w b (w.heap.size + 1) w.heap.size L (fun x => decide (x ∈ L)) cnt (some ⟨w.heap.size, 0, none⟩) n [] w1) := Lib.hid ⟨((Grew.refl w).alloc _).grown hg1 (fun k hk => (by cases hk)), hr1, HO1.out, List.nodup_nil, fun x _ => (by simp), fun x hx => (by cases hx), (by
    obtain ⟨_, _, _, _, _, hc, _⟩ := hr1
    simpa using hc)⟩
  clear hr1 hs1 hg1 HO1 e1
  go_loopw [3] (fun v wr => RisAt w b (w.heap.size + 1) w.heap.size L v wr) (fun _ wr => cntOf wr b (w.heap.size + 1))
  case atStart => exact ⟨_, _, _, _, [], rfl, HR0.out⟩
  case round =>
    obtain ⟨left, cnt2, A, c, l, rfl, hris⟩ := hrel
    have HRis := Lib.hid hris
    have hcnt := hris.set.left_eq
    have hfew := hris.few
    clear hris HR0
    go_wp2_with (at_next; refine wpList_snext rfl _ rfl (w.heap.size + 1) left cnt2 rfl HRis.out.set ?_ ?_)
    · intro hdone
      have HSort := Lib.hid (sort_own l (by omega) A c w.heap.size wr HRis.out.own)
      have hset : sortI l = setI L := sortI_setI HRis.out.nodup fun x => by
        by_cases hx : wfI x
        · rw [HRis.out.mem x hx, hdone x hx]; simp
        · exact ⟨fun h => absurd (HRis.out.wf x h) hx, fun h => absurd (HW.out x h) hx⟩
      have HSet := Lib.hid hset
      have hsl : (setI L).length = l.length := by rw [← hset, sortI_len]
      have HG := Lib.hid HRis.out.grew
      have HB := Lib.hid (own_base HRis.out.own)
      clear hdone hset hcnt
      go_wp2_with fail
      refine HSort.out.mono ?_
      rintro e w4 ⟨rfl, ho4, hb4⟩
      have HG4 := Lib.hid (HG.out.grown hb4 HB.out)
      have HO4 := Lib.hid ho4
      clear ho4 hb4
      go_wp2
      go_ret
      exact ⟨A, c, by rw [hsl]; rfl, HG4.out, by have h := HO4.out; rw [HSet.out] at h; rw [hsl]; exact h⟩
    · intro x w2 cnt3 hwx hlx hxL hr2 hlt hg2 hs2 hen
      have hap := HRis.out.set.apart HRis.out.own
      have HO2 := Lib.hid (own_grown HRis.out.own hg2 (fun k hk e => (hap k hk).2 (by injection e)))
      have HStep := Lib.hid (fun w9 A9 c9 ho9 hg9 => HRis.out.step (w2 := w9) (A' := A9) (c' := c9) (by omega) (Nat.le_refl _) hwx hlx hxL hr2 hlt hg2 ho9 (.cells #[.int .i64 x] 3) hg9)
      have HR2 := Lib.hid hr2
      have hwl : w.heap.size ≤ w2.heap.size := by rw [hs2]; exact HRis.out.grew.size
      clear hap hr2 hg2 hs2 hlx hxL
      go_wp2_with (at_builtin; refine wpList_appB rfl _ _ 37 3 1 rfl w.heap.size (.int .i64 0) 8 Try.underlying37 infoI rfl (by decide) (by decide) _ l.length (iV l) rfl (own_alloc HO2.out _) _ 1 1 [.int .i64 x] rfl rfl (row_one _ _ _ _ rfl) (by simp [Value.oneCell']) (by omega) (by rw [World.size_alloc]; omega) ?_; intro A9 c9 w9 ho9 hg9; have HF := Lib.hid (HStep.out w9 A9 c9 ho9 hg9); clear ho9 hg9)
      refine ⟨⟨_, cnt3, A9, c9, l ++ [x], by simp, HF.out⟩, ?_⟩
      rw [HF.out.set.left_eq, hcnt]
      exact hlt
end Go.Proofs.Ytchogpdfdpbpfaa

/- Layer 21: what two lists share; is one within the other; vertices, degrees, by the program. Condition: no more than a million numbers. -/
namespace Go.Proofs.Ytchogpdfdpbpfaa
open Go.RowKit
attribute [local go_sem] more_cell more_frozen more_more more_setCell more_of_drew more_of_drewN lt_more le_more past_cell past_cell2 past_frozen past_frozen2 past_setCell past_setCell2 mid_cell mid_frozen mid_setCell
attribute [local go_sem ↓] Go.wp_at_zero Go.wp_at_succ

theorem wfG_one {l : List Int} (h : wfL l) : wfG [l] := fun m hm => by rw [List.mem_singleton.1 hm]; exact h
theorem setof_one (l : List Int) (B : Option Addr) (c : Nat) (hw : wfL l) (hl : l.length ≤ 1000000) (w : World) (rb : Row w B (iV l)) :
    Calls Try.prog 61 #[.slice (some ⟨w.heap.size, 0, none⟩) 1 1] (w.alloc (.cells #[.slice B l.length c] 37)) (SetFg (w.alloc (.cells #[.slice B l.length c] 37)) l) := by
  have := setof_any [l] (some ⟨w.heap.size, 0, none⟩) 1 (wfG_one hw) (by simp) (by simpa using hl) _ (gridI_one w B l c rb)
  simpa using this
/-- What both have, as far as it has come. -/
structure ShS (u : World) (ba r b1 b2 : Nat) (a b : List Int) (left : Int → Bool) (cnt : Nat) (K : List Int) (wr : World) : Prop where
  grew : Grew u wr
  rng : SetR wr ba r a left cnt
  one : SetL wr b1 b
  two : SetL wr b2 K
  mem : ∀ x, wfI x → (x ∈ K ↔ (x ∈ a ∧ x ∈ b) ∧ left x = false)
  wf : wfL K
  few : K.length + cnt ≤ a.length
def ShAt (u : World) (ba r b1 b2 : Nat) (a b : List Int) (wr : World) : Prop := ∃ left cnt K, ShS u ba r b1 b2 a b left cnt K wr
theorem vertices21_any (h : List (List Int)) (A : Option Addr) (k : Nat) (hw : wfG h) (hl : h.length ≤ 1000000) (hf : h.flatten.length ≤ 1000000) (w : World) (ra : GridI (PRow w) A h) :
    Calls Try.prog 35 #[.slice A h.length k] w (OwnI w (setI h.flatten)) := by
  have HS := Lib.hid (setof_any h A k hw hl hf w ra)
  have hwf : wfL h.flatten := fun x hx => by
    obtain ⟨l, hl, hx⟩ := List.mem_flatten.1 hx
    exact hw l hl x hx
  have HR := Lib.hid (fun b W (hs : SetL W b h.flatten) => rising_any b h.flatten hwf hf W hs)
  clear hw hl hf ra hwf
  generalize h.flatten = L at *
  go_enter Try.func35, Try.ntmps35
  go_wp2_with fail
  refine HS.out.mono ?_
  rintro e w1 ⟨b1, rfl, hb1, hg1, hs1⟩
  have HS1 := Lib.hid hs1
  have HG1 := Lib.hid hg1
  clear hb1 hg1 hs1 HS
  go_wp2_with fail
  refine (HR.out b1 w1 HS1.out).mono ?_
  rintro e w5 ⟨A5, k5, rfl, hg5, ho5⟩
  have HF : Hid (OwnI w (setI L) (.returned (.slice A5 (setI L).length k5)) w5) := Lib.hid ⟨A5, k5, rfl, HG1.out.trans hg5, own_le ho5 HG1.out.size⟩
  clear hg5 ho5 HR
  go_wp2
  go_ret
  exact HF.out
end Go.Proofs.Ytchogpdfdpbpfaa

/- Maps of one's own, by their entries in the order in which they were put. Condition: keys of a type that has a key's law. -/
namespace Go.Proofs.Ytchogpdfdpbpfaa
open Go.RowKit Go.WideElems Go.MapKept
open Go.ChangeMaps (setBlock heap_setBlock_same heap_setBlock_other)
open Go.WideMaps (KeyLaw)

def MapAt (w : World) (b : Nat) (l : List (Value × Value)) : Prop := ∃ es clock, w.heap[b]? = some (.map es clock) ∧ es.toList.map (fun e => (e.key, e.val)) = l
theorem MapAt.lt {w : World} {b : Nat} {l : List (Value × Value)} (h : MapAt w b l) : b < w.heap.size := by
  obtain ⟨es, clock, hb, _⟩ := h
  exact (Array.getElem?_eq_some_iff.1 hb).1
theorem map_new (w : World) (b : Nat) (hb : b = w.heap.size) : MapAt (w.alloc (.map #[] 0)) b [] := by
  subst hb
  exact ⟨#[], 0, (MapKept.heap_alloc w _).1, rfl⟩
theorem MapAt.of {w w' : World} {b : Nat} {l : List (Value × Value)} (h : MapAt w b l) (e : w'.heap[b]? = w.heap[b]?) : MapAt w' b l := by
  obtain ⟨es, clock, hb, hl⟩ := h
  exact ⟨es, clock, e.trans hb, hl⟩
theorem MapAt.grew {w w' : World} {b : Nat} {l : List (Value × Value)} (h : MapAt w b l) (g : Grew w w') : MapAt w' b l := by
  obtain ⟨x, rfl⟩ := g
  exact h.of (more_block w x b h.lt)
theorem MapAt.kept {w w' : World} {b : Nat} {l : List (Value × Value)} {row : Option Nat} (h : MapAt w b l) (g : w.grownBy w' row) (hr : some b ≠ row) : MapAt w' b l := h.of (g.block b h.lt hr)
theorem MapAt.turns {w w' : World} {b g : Nat} {l : List (Value × Value)} (h : MapAt w b l) (k : Turns w w' g) (hg : b ≠ g) : MapAt w' b l := h.of (k.block b h.lt hg)
section
variable {P : Program} {k e t : TypeId} {w : World} {b : Nat} {l : List (Value × Value)}
/-- 'v, ok := m[k]': the key's own entry, or the zero value. -/
theorem map_look (K : KeyLaw P k) (ht : P.underlying t = some (.map k e)) (h : MapAt w b l) (hk : ∀ p ∈ l, ∃ kl, keyOf P k p.1 = some kl) {key z : Value} {kl : Lit} (hkey : keyOf P k key = some kl) (hz : (zeroValue e).run P w = .ok z w) :
    ((∀ p ∈ l, p.1 ≠ key) ∧ (Instr.lookup t (.map (some b)) key true).run P w = .ok (.tuple #[z, .bool false]) w) ∨ ∃ v, (key, v) ∈ l ∧ (Instr.lookup t (.map (some b)) key true).run P w = .ok (.tuple #[v, .bool true]) w := by
  obtain ⟨es, clock, hb, rfl⟩ := h
  have hall : ∀ x ∈ es.toList, ∃ kl, keyOf P k x.key = some kl := fun x hx => hk (x.key, x.val) (List.mem_map.2 ⟨x, hx, rfl⟩)
  rcases K.find w hkey es.toList hall with ⟨h1, h2⟩ | ⟨j, e0, h1, h2, h3⟩
  · refine Or.inl ⟨fun p hp => ?_, by simp [Instr.lookup, run_underlying ht, MapKept.run_getObj_map hb, K.check w _ hkey, h1, hz, Result.andThen]⟩
    obtain ⟨x, hx, rfl⟩ := List.mem_map.1 hp
    exact h2 x hx
  · refine Or.inr ⟨e0.val, List.mem_map.2 ⟨e0, List.mem_of_getElem? h2, by rw [h3]⟩, by simp [Instr.lookup, run_underlying ht, MapKept.run_getObj_map hb, K.check w _ hkey, h1, Result.andThen]⟩
/-- 'len(m)'. -/
theorem map_len (ht : P.underlying t = some (.map k e)) (h : MapAt w b l) (ty : TypeId) : (Builtin.len_ #[t] ty #[.map (some b)]).run P w = .ok (.int .i64 l.length) w := by
  obtain ⟨es, clock, hb, rfl⟩ := h
  simp [Builtin.len_, run_underlying ht, MapKept.run_getObj_map hb, goInt, Result.andThen]
/-- 'm[k] = v' at a key that is not there. -/
theorem map_put (K : KeyLaw P k) (ht : P.underlying t = some (.map k e)) (h : MapAt w b l) (hk : ∀ p ∈ l, ∃ kl, keyOf P k p.1 = some kl) {key val : Value} {kl : Lit} (hkey : keyOf P k key = some kl) (hno : ∀ p ∈ l, p.1 ≠ key) :
    ∃ w', (Instr.mapUpdate t (.map (some b)) key val).run P w = .ok () w' ∧ MapAt w' b (l ++ [(key, val)]) ∧ w.grownBy w' (some b) := by
  obtain ⟨es, clock, hb, rfl⟩ := h
  have hall : ∀ x ∈ es.toList, ∃ kl, keyOf P k x.key = some kl := fun x hx => hk (x.key, x.val) (List.mem_map.2 ⟨x, hx, rfl⟩)
  rcases K.find w hkey es.toList hall with ⟨h1, h2⟩ | ⟨j, e0, h1, h2, h3⟩
  · refine ⟨setBlock w b (.map (es.push ⟨key, val, clock⟩) (clock + 1)), by simp [Instr.mapUpdate, run_underlying ht, MapKept.run_getObj_map hb, K.check w false hkey, h1, MapKept.run_setObj_map _ hb, Result.andThen, setBlock], ⟨_, _, heap_setBlock_same hb _, by simp⟩, ⟨rfl, rfl, rfl, by simp [setBlock], fun i _ hi => heap_setBlock_other hb _ (fun e => hi (by rw [e]))⟩⟩
  · exact absurd h3 (hno (e0.key, e0.val) (List.mem_map.2 ⟨e0, List.mem_of_getElem? h2, rfl⟩))
end
theorem wpList_mput {P : Program} {w : World} {ops : Array Oper} {rest : List Oper} {o : Oper} {a : Act} {Q : Exit → Act → World → Prop} (hg : o.guard = none) (m x v : Operand) (t k e : TypeId) (hop : o.op = Op.mapUpdate t m x v)
    (K : KeyLaw P k) (ht : P.underlying t = some (.map k e)) (b : Nat) (l : List (Value × Value)) (hm : a.eval m = .map (some b)) (h : MapAt w b l) (hk : ∀ p ∈ l, ∃ kl, keyOf P k p.1 = some kl) (key val : Value) (kl : Lit) (hx : a.eval x = key) (hv : a.eval v = val)
    (hkey : keyOf P k key = some kl) (hno : ∀ p ∈ l, p.1 ≠ key)
    (hK : ∀ w', MapAt w' b (l ++ [(key, val)]) → w.grownBy w' (some b) → wpList P ops Q rest (a.put o.dst undef) w') : wpList P ops Q (o :: rest) a w := by
  refine wpList_plain hg fun K' hK' => ?_
  obtain ⟨w', hrun, r1, r2⟩ := map_put K ht h hk (val := val) hkey hno
  unfold Oper.wp
  simp [execOp, hop, hm, hx, hv, hrun, Result.andThen]
  exact hK' _ _ (hK w' r1 r2)
end Go.Proofs.Ytchogpdfdpbpfaa

/- Maps of one's own from numbers to rows of numbers. Condition: numbers as they may be. -/
namespace Go.Proofs.Ytchogpdfdpbpfaa
open Go.RowKit Go.WideElems Go.MapKept Go.Maps
open Go.ChangeMaps (setBlock heap_setBlock_same heap_setBlock_other)

section
variable {P : Program} {k e t : TypeId} {w : World} {b : Nat} {l : List (Value × Value)}
/-- 'm[k]': the key's own entry, or the zero value. -/
theorem mapI_look (K : Keyed P k) (ht : P.underlying t = some (.map k e)) (h : MapAt w b l) (hk : ∀ p ∈ l, ∃ kl, keyOf P k p.1 = some kl) {key z : Value} {kl : Lit} (hkey : keyOf P k key = some kl) (hz : (zeroValue e).run P w = .ok z w) :
    ((∀ p ∈ l, p.1 ≠ key) ∧ (Instr.lookup t (.map (some b)) key false).run P w = .ok z w) ∨ ∃ v, (key, v) ∈ l ∧ (Instr.lookup t (.map (some b)) key false).run P w = .ok v w := by
  obtain ⟨es, clock, hb, rfl⟩ := h
  have hall : ∀ x ∈ es.toList, ∃ kl, keyOf P k x.key = some kl := fun x hx => hk (x.key, x.val) (List.mem_map.2 ⟨x, hx, rfl⟩)
  rcases K.find w hkey es.toList hall with ⟨h1, h2⟩ | ⟨j, e0, h1, h2, h3⟩
  · refine Or.inl ⟨fun p hp => ?_, by simp [Instr.lookup, run_underlying ht, MapKept.run_getObj_map hb, K.check w _ hkey, h1, hz, Result.andThen]⟩
    obtain ⟨x, hx, rfl⟩ := List.mem_map.1 hp
    exact h2 x hx
  · exact Or.inr ⟨e0.val, List.mem_map.2 ⟨e0, List.mem_of_getElem? h2, by rw [h3]⟩, by simp [Instr.lookup, run_underlying ht, MapKept.run_getObj_map hb, K.check w _ hkey, h1, Result.andThen]⟩
/-- 'm[k] = v': at the key's own place, or behind all others. -/
theorem mapI_put (K : Keyed P k) (ht : P.underlying t = some (.map k e)) (h : MapAt w b l) (hk : ∀ p ∈ l, ∃ kl, keyOf P k p.1 = some kl) (hn : (l.map Prod.fst).Nodup) {key val : Value} {kl : Lit} (hkey : keyOf P k key = some kl) :
    ∃ w' l', (Instr.mapUpdate t (.map (some b)) key val).run P w = .ok () w' ∧ MapAt w' b l' ∧ w.grownBy w' (some b) ∧ w'.heap.size = w.heap.size ∧ (l'.map Prod.fst).Nodup ∧ ∀ p, p ∈ l' ↔ (p ∈ l ∧ p.1 ≠ key) ∨ p = (key, val) := by
  obtain ⟨es, clock, hb, rfl⟩ := h
  have hall : ∀ x ∈ es.toList, ∃ kl, keyOf P k x.key = some kl := fun x hx => hk (x.key, x.val) (List.mem_map.2 ⟨x, hx, rfl⟩)
  rcases K.find w hkey es.toList hall with ⟨h1, h2⟩ | ⟨j, e0, h1, h2, h3⟩
  · refine ⟨setBlock w b (.map (es.push ⟨key, val, clock⟩) (clock + 1)), _, by simp [Instr.mapUpdate, run_underlying ht, MapKept.run_getObj_map hb, K.check w false hkey, h1, MapKept.run_setObj_map _ hb, Result.andThen, setBlock], ⟨_, _, heap_setBlock_same hb _, rfl⟩, ⟨rfl, rfl, rfl, by simp [setBlock], fun i _ hi => heap_setBlock_other hb _ (fun e => hi (by rw [e]))⟩, by simp [setBlock], ?_, fun p => ?_⟩
    · rw [Array.toList_push, List.map_append, List.map_append, List.nodup_append]
      refine ⟨hn, by simp, fun x hx y hy e => ?_⟩
      simp at hy
      subst hy
      subst e
      obtain ⟨p, hp, e1⟩ := List.mem_map.1 hx
      obtain ⟨x, hx2, rfl⟩ := List.mem_map.1 hp
      exact h2 x hx2 e1
    · rw [Array.toList_push, List.map_append, List.mem_append]
      constructor
      · rintro (h | h)
        · obtain ⟨x, hx, rfl⟩ := List.mem_map.1 h
          exact Or.inl ⟨h, h2 x hx⟩
        · exact Or.inr (by simpa using h)
      · rintro (h | h)
        · exact Or.inl h.1
        · exact Or.inr (by simpa using h)
  · have hjl : j < es.toList.length := (List.getElem?_eq_some_iff.1 h2).1
    have h0 : es.toList[j] = e0 := (List.getElem?_eq_some_iff.1 h2).2
    have hmod : (es.modify j fun e => { e with key := key, val := val }).toList = es.toList.modify j (fun e => { e with key := key, val := val }) := by simp
    have hget : ∀ i, (es.toList.modify j fun e => { e with key := key, val := val })[i]? = if j = i then some { e0 with key := key, val := val } else es.toList[i]? := fun i => by
      rw [List.getElem?_modify]
      by_cases hij : j = i
      · subst hij; simp [h2]
      · simp [hij]
    have hne : ∀ i (hi : i < es.toList.length), i ≠ j → es.toList[i].key ≠ key := fun i hi hij hxk => by
      have hn2 := hn
      rw [List.map_map] at hn2
      unfold List.Nodup at hn2
      rw [List.pairwise_iff_getElem] at hn2
      rcases Nat.lt_or_gt_of_ne hij with h | h
      · have := hn2 i j (by simpa using hi) (by simpa using hjl) h
        simp only [List.getElem_map, Function.comp] at this
        rw [h0] at this
        exact this (by rw [hxk, h3])
      · have := hn2 j i (by simpa using hjl) (by simpa using hi) h
        simp only [List.getElem_map, Function.comp] at this
        rw [h0] at this
        exact this (by rw [hxk, h3])
    refine ⟨setBlock w b (.map (es.modify j fun e => { e with key := key, val := val }) clock), _, ?_, ⟨_, _, heap_setBlock_same hb _, rfl⟩, ⟨rfl, rfl, rfl, by simp [setBlock], fun i _ hi => heap_setBlock_other hb _ (fun e => hi (by rw [e]))⟩, by simp [setBlock], ?_, fun p => ?_⟩
    · have hj : es[j]? = some e0 := by simpa using h2
      have hs : (Instr.keyThatStays key key).run P w = .ok key w := K.stays w hkey
      simp [Instr.mapUpdate, run_underlying ht, MapKept.run_getObj_map hb, K.check w false hkey, h1, MapKept.run_setObj_map _ hb, Result.andThen, setBlock, hj, h3, hs]
    · have e : (((es.modify j fun e => { e with key := key, val := val }).toList.map fun e => (e.key, e.val)).map Prod.fst) = ((es.toList.map fun e => (e.key, e.val)).map Prod.fst) := by
        apply List.ext_getElem?
        intro i
        rw [hmod]
        simp only [List.getElem?_map, hget]
        by_cases hij : j = i
        · subst hij; simp [h2, h3]
        · simp [hij]
      rw [e]
      exact hn
    · rw [hmod, List.mem_map]
      constructor
      · rintro ⟨x, hx, rfl⟩
        obtain ⟨i, hi⟩ := List.mem_iff_getElem?.1 hx
        rw [hget] at hi
        by_cases hij : j = i
        · rw [if_pos hij] at hi
          injection hi with hi
          subst hi
          exact Or.inr rfl
        · rw [if_neg hij] at hi
          obtain ⟨hil, hix⟩ := List.getElem?_eq_some_iff.1 hi
          exact Or.inl ⟨List.mem_map.2 ⟨x, List.mem_of_getElem? hi, rfl⟩, by rw [← hix]; exact hne i hil (fun e => hij e.symm)⟩
      · rintro (⟨h, hk2⟩ | h)
        · obtain ⟨x, hx, rfl⟩ := List.mem_map.1 h
          obtain ⟨i, hi, rfl⟩ := List.mem_iff_getElem.1 hx
          refine ⟨es.toList[i], List.mem_iff_getElem?.2 ⟨i, ?_⟩, rfl⟩
          rw [hget, if_neg (fun e => ?_), List.getElem?_eq_getElem hi]
          subst e
          exact hk2 (by rw [h0]; exact h3)
        · subst h
          exact ⟨{ e0 with key := key, val := val }, List.mem_iff_getElem?.2 ⟨j, by rw [hget, if_pos rfl]⟩, rfl⟩
/-- 'delete(m, k)'. -/
theorem mapI_del (K : Keyed P k) (ht : P.underlying t = some (.map k e)) (h : MapAt w b l) (hk : ∀ p ∈ l, ∃ kl, keyOf P k p.1 = some kl) (hn : (l.map Prod.fst).Nodup) {key : Value} {kl : Lit} (hkey : keyOf P k key = some kl) (ty : TypeId) :
    ∃ w' l', (Builtin.delete_ #[t, k] ty #[.map (some b), key]).run P w = .ok (.tuple #[]) w' ∧ MapAt w' b l' ∧ w.grownBy w' (some b) ∧ w'.heap.size = w.heap.size ∧ (l'.map Prod.fst).Nodup ∧ ∀ p, p ∈ l' ↔ p ∈ l ∧ p.1 ≠ key := by
  obtain ⟨es, clock, hb, rfl⟩ := h
  have hall : ∀ x ∈ es.toList, ∃ kl, keyOf P k x.key = some kl := fun x hx => hk (x.key, x.val) (List.mem_map.2 ⟨x, hx, rfl⟩)
  rcases K.find w hkey es.toList hall with ⟨h1, h2⟩ | ⟨j, e0, h1, h2, h3⟩
  · refine ⟨setBlock w b (.map es clock), _, by simp [Builtin.delete_, run_underlying ht, MapKept.run_getObj_map hb, K.check w _ hkey, h1, MapKept.run_setObj_map _ hb, Result.andThen, setBlock], ⟨_, _, heap_setBlock_same hb _, rfl⟩, ⟨rfl, rfl, rfl, by simp [setBlock], fun i _ hi => heap_setBlock_other hb _ (fun e => hi (by rw [e]))⟩, by simp [setBlock], hn, fun p => ⟨fun hp => ⟨hp, ?_⟩, fun hp => hp.1⟩⟩
    obtain ⟨x, hx, rfl⟩ := List.mem_map.1 hp
    exact h2 x hx
  · have hjl : j < es.toList.length := (List.getElem?_eq_some_iff.1 h2).1
    have hjs : j < es.size := by simpa using hjl
    have hsub : (es.eraseIdxIfInBounds j).toList = es.toList.eraseIdx j := by
      unfold Array.eraseIdxIfInBounds
      rw [dif_pos hjs]
      simp
    have h0 : es.toList[j] = e0 := (List.getElem?_eq_some_iff.1 h2).2
    refine ⟨setBlock w b (.map (es.eraseIdxIfInBounds j) clock), _, by simp [Builtin.delete_, run_underlying ht, MapKept.run_getObj_map hb, K.check w _ hkey, h1, MapKept.run_setObj_map _ hb, Result.andThen, setBlock], ⟨_, _, heap_setBlock_same hb _, rfl⟩, ⟨rfl, rfl, rfl, by simp [setBlock], fun i _ hi => heap_setBlock_other hb _ (fun e => hi (by rw [e]))⟩, by simp [setBlock], ?_, fun p => ?_⟩
    · rw [hsub]
      refine List.Sublist.nodup ?_ hn
      exact (((List.eraseIdx_sublist es.toList j).map _).map _)
    · rw [hsub]
      have hn2 := hn
      rw [List.map_map] at hn2
      unfold List.Nodup at hn2
      rw [List.pairwise_iff_getElem] at hn2
      constructor
      · intro hp
        obtain ⟨x, hx, rfl⟩ := List.mem_map.1 hp
        refine ⟨List.mem_map.2 ⟨x, (List.eraseIdx_sublist _ _).subset hx, rfl⟩, fun hxk => ?_⟩
        obtain ⟨i, hij, hi⟩ := List.mem_eraseIdx_iff_getElem?.1 hx
        have hil := (List.getElem?_eq_some_iff.1 hi).1
        have hx2 : es.toList[i] = x := (List.getElem?_eq_some_iff.1 hi).2
        rcases Nat.lt_or_gt_of_ne hij with h | h
        · have := hn2 i j (by simpa using hil) (by simpa using hjl) h
          simp only [List.getElem_map, Function.comp] at this
          rw [hx2, h0] at this
          exact this (by simp only at hxk; rw [hxk, h3])
        · have := hn2 j i (by simpa using hjl) (by simpa using hil) h
          simp only [List.getElem_map, Function.comp] at this
          rw [hx2, h0] at this
          exact this (by simp only at hxk; rw [hxk, h3])
      · rintro ⟨hp, hne⟩
        obtain ⟨x, hx, rfl⟩ := List.mem_map.1 hp
        refine List.mem_map.2 ⟨x, ?_, rfl⟩
        obtain ⟨i, hi, rfl⟩ := List.mem_iff_getElem.1 hx
        refine List.mem_eraseIdx_iff_getElem?.2 ⟨i, fun e => ?_, List.getElem?_eq_getElem hi⟩
        subst e
        rw [h0] at hne
        exact hne h3
end
end Go.Proofs.Ytchogpdfdpbpfaa

/- Layer 21: which edges hang together: plain mathematics. No condition. -/
namespace Go.Proofs.Ytchogpdfdpbpfaa

def edgeAt (h : List (List Int)) (i : Nat) : List Int := h.getD i []
theorem edgeAt_eq {h : List (List Int)} {i : Nat} (hi : i < h.length) : edgeAt h i = h[i] := by
  unfold edgeAt
  rw [List.getD_eq_getElem?_getD, List.getElem?_eq_getElem hi]
  rfl
def sharesB (h : List (List Int)) (i k : Nat) : Bool := !(sharedI (edgeAt h i) (edgeAt h k)).isEmpty
theorem sharesB_iff (h : List (List Int)) (i k : Nat) : sharesB h i k = true ↔ ∃ v, v ∈ edgeAt h i ∧ v ∈ edgeAt h k := by
  unfold sharesB
  constructor
  · intro hs
    cases hl : sharedI (edgeAt h i) (edgeAt h k) with
    | nil => rw [hl] at hs; simp at hs
    | cons v l => exact ⟨v, (sharedI_mem _ _ v).1 (by rw [hl]; simp)⟩
  · rintro ⟨v, hv⟩
    have := (sharedI_mem _ _ v).2 hv
    cases hl : sharedI (edgeAt h i) (edgeAt h k) with
    | nil => rw [hl] at this; cases this
    | cons w l => rfl
def pairR (h : List (List Int)) (i k : Nat) : List (Int × Int) := ((List.range k).filter fun j => sharesB h i j).map fun (j : Nat) => ((i : Int), (j : Int))
def pairU (h : List (List Int)) (i : Nat) : List (Int × Int) := ((List.range i).map fun i => pairR h i h.length).flatten
theorem pairR_in {h : List (List Int)} {i k : Nat} (hs : sharesB h i k = true) : pairR h i (k + 1) = pairR h i k ++ [((i : Int), (k : Int))] := by
  unfold pairR
  rw [List.range_succ, List.filter_append, List.map_append]
  simp [hs]
theorem pairR_out {h : List (List Int)} {i k : Nat} (hs : sharesB h i k = false) : pairR h i (k + 1) = pairR h i k := by
  unfold pairR
  rw [List.range_succ, List.filter_append, List.map_append]
  simp [hs]
theorem pairU_succ (h : List (List Int)) (i : Nat) : pairU h (i + 1) = pairU h i ++ pairR h i h.length := by
  unfold pairU
  rw [List.range_succ, List.map_append, List.flatten_append]
  simp
theorem pairR_zero (h : List (List Int)) (i : Nat) : pairR h i 0 = [] := rfl
theorem pairU_zero (h : List (List Int)) : pairU h 0 = [] := rfl
theorem pairR_mem {h : List (List Int)} {i k : Nat} {p : Int × Int} : p ∈ pairR h i k ↔ ∃ j, j < k ∧ sharesB h i j = true ∧ p = ((i : Int), (j : Int)) := by
  unfold pairR
  rw [List.mem_map]
  constructor
  · rintro ⟨j, hj, rfl⟩
    rw [List.mem_filter, List.mem_range] at hj
    exact ⟨j, hj.1, hj.2, rfl⟩
  · rintro ⟨j, hj, hs, rfl⟩
    exact ⟨j, by rw [List.mem_filter, List.mem_range]; exact ⟨hj, hs⟩, rfl⟩
theorem pairU_mem {h : List (List Int)} {n : Nat} {p : Int × Int} : p ∈ pairU h n ↔ ∃ i j, i < n ∧ j < h.length ∧ sharesB h i j = true ∧ p = ((i : Int), (j : Int)) := by
  unfold pairU
  rw [List.mem_flatten]
  constructor
  · rintro ⟨l, hl, hp⟩
    obtain ⟨i, hi, rfl⟩ := List.mem_map.1 hl
    obtain ⟨j, h1, h2, h3⟩ := pairR_mem.1 hp
    exact ⟨i, j, by simpa using hi, h1, h2, h3⟩
  · rintro ⟨i, j, h1, h2, h3, h4⟩
    exact ⟨_, List.mem_map.2 ⟨i, by simpa using h1, rfl⟩, pairR_mem.2 ⟨j, h2, h3, h4⟩⟩
/-- The least edge of those that hang together with one. -/
def partR (h : List (List Int)) : Nat → Nat := foldR h.length (pairU h h.length)
theorem partR_least (h : List (List Int)) : Least h.length (partR h) := foldR_least _ _
theorem partR_shares {h : List (List Int)} {i k : Nat} (hi : i < h.length) (hk : k < h.length) (v : Int) (h1 : v ∈ edgeAt h i) (h2 : v ∈ edgeAt h k) : partR h i = partR h k := by
  have := foldR_pair h.length (pairU h h.length) ((i : Int), (k : Int)) (pairU_mem.2 ⟨i, k, hi, hk, (sharesB_iff h i k).2 ⟨v, h1, h2⟩, rfl⟩) (by unfold inB; simp only; omega)
  simpa [partR] using this
/-- What holds of all that share with one of which it holds, holds of all that hang together with it. -/
theorem partR_closed {h : List (List Int)} {S : Nat → Prop} (hS : ∀ i k v, i < h.length → k < h.length → S i → v ∈ edgeAt h i → v ∈ edgeAt h k → S k) {i j : Nat} (hij : partR h i = partR h j) (hi : S i) : S j := by
  have hc := foldR_conn h.length (pairU h h.length) i j hij
  have key : ∀ a b, Conn h.length (pairU h h.length) a b → (S a ↔ S b) := by
    intro a b hab
    induction hab with
    | refl i => exact Iff.rfl
    | pair p hp hb =>
      obtain ⟨i, k, h1, h2, h3, rfl⟩ := pairU_mem.1 hp
      obtain ⟨v, hv1, hv2⟩ := (sharesB_iff h i k).1 h3
      simp only [Int.toNat_natCast]
      exact ⟨fun hs => hS i k v h1 h2 hs hv1 hv2, fun hs => hS k i v h2 h1 hs hv2 hv1⟩
    | symm _ ih => exact ih.symm
    | trans _ _ ih ih' => exact ih.trans ih'
  exact (key i j hc).1 hi
/-- Edges that hang together, all of them, in order. -/
theorem part_all {h : List (List Int)} {f : Nat} {part : List Nat} (hff : partR h f = f) (hfp : f ∈ part) (hp : ∀ p ∈ part, p < h.length ∧ partR h p = f)
    (hc : ∀ p ∈ part, ∀ v ∈ edgeAt h p, ∀ k, k < h.length → v ∈ edgeAt h k → partR h k < f ∨ k ∈ part) : ∀ k, k < h.length → (k ∈ part ↔ partR h k = f) := by
  intro k hk
  refine ⟨fun h1 => (hp k h1).2, fun h1 => ?_⟩
  refine partR_closed (S := fun j => j ∈ part) (fun i j v hi hj hs hv1 hv2 => ?_) (hff.trans h1.symm) hfp
  rcases hc i hs v hv1 j hj hv2 with h2 | h2
  · have h3 := partR_shares hi hj v hv1 hv2
    have h4 := (hp i hs).2
    omega
  · exact h2
theorem clsL_mem {n p k : Nat} {r : Nat → Nat} : k ∈ clsL n r p ↔ k < n ∧ r k = p := by
  unfold clsL
  simp
theorem clsL_pw (n p : Nat) (r : Nat → Nat) : (clsL n r p).Pairwise (· < ·) := List.Pairwise.filter _ List.pairwise_lt_range
/-- Numbers sorted, that are a class. -/
theorem sort_class {n f : Nat} {r : Nat → Nat} {part : List Nat} (hn : part.Nodup) (h : ∀ k, k ∈ part ↔ k < n ∧ r k = f) : sortI (part.map fun (a : Nat) => (a : Int)) = (clsL n r f).map fun (a : Nat) => (a : Int) := by
  have h1 : Rising ((clsL n r f).map fun (a : Nat) => (a : Int)) := by
    unfold Rising
    rw [List.pairwise_map]
    exact (clsL_pw n f r).imp fun {a b} h => by omega
  refine (sortI_uniq ?_ h1.le).symm
  refine (List.perm_ext_iff_of_nodup h1.nodup ?_).2 fun x => ?_
  · unfold List.Nodup at hn ⊢
    rw [List.pairwise_map]
    exact hn.imp fun {a b} h e => h (by omega)
  · rw [List.mem_map, List.mem_map]
    constructor
    · rintro ⟨k, hk, rfl⟩
      exact ⟨k, (h k).2 (clsL_mem.1 hk), rfl⟩
    · rintro ⟨k, hk, rfl⟩
      exact ⟨k, clsL_mem.2 ((h k).1 hk), rfl⟩
end Go.Proofs.Ytchogpdfdpbpfaa

/- Layer 21: the edges that have a vertex: a map of rows of one's own, that is filled. Condition: no more than a million numbers. -/
namespace Go.Proofs.Ytchogpdfdpbpfaa
open Go.RowKit Go.Maps
attribute [local go_sem] more_cell more_frozen more_more more_setCell more_of_drew more_of_drewN lt_more le_more past_cell past_cell2 past_frozen past_frozen2 past_setCell past_setCell2 mid_cell mid_frozen mid_setCell
attribute [local go_sem ↓] Go.wp_at_zero Go.wp_at_succ

structure WithM (w : World) (mb base : Nat) (l : List (Value × Value)) (F : Int → List Nat) : Prop where
  map : MapAt w mb l
  nodup : (l.map Prod.fst).Nodup
  rows : ∀ p ∈ l, ∃ x, wfI x ∧ p.1 = .int .i64 x ∧ ∃ B c, p.2 = .slice B (F x).length c ∧ w.ownsRow base 3 1 p.2 (F x).length (nL (F x))
  none : ∀ x, (∀ p ∈ l, p.1 ≠ .int .i64 x) → F x = []
  apart : ∀ p ∈ l, ∀ q ∈ l, p.1 ≠ q.1 → ∀ k, p.2.ownBlock = some k → q.2.ownBlock ≠ some k
theorem WithM.keyed {w : World} {mb base : Nat} {l : List (Value × Value)} {F : Int → List Nat} (h : WithM w mb base l F) : ∀ p ∈ l, ∃ kl, keyOf Try.prog 3 p.1 = some kl := fun p hp => by
  obtain ⟨x, hx, e, _⟩ := h.rows p hp
  rw [e]
  exact ⟨_, key_int hx⟩
theorem zero_ints (w : World) : (zeroValue 37).run Try.prog w = .ok (.slice none 0 0) w := by kernel_rfl
/-- What is found at a key. -/
structure Found21 (w : World) (base : Nat) (l : List (Value × Value)) (x : Int) (B : Option Addr) (n c : Nat) (L : List Nat) : Prop where
  own : w.ownsRow base 3 1 (.slice B n c) n (nL L)
  len : n = L.length
  there : (.int .i64 x, .slice B n c) ∈ l ∨ ((∀ p ∈ l, p.1 ≠ .int .i64 x) ∧ Value.slice B n c = .slice none 0 0)
theorem WithM.look {w : World} {mb base : Nat} {l : List (Value × Value)} {F : Int → List Nat} (h : WithM w mb base l F) {x : Int} (hx : wfI x) :
    ∃ B c, (Instr.lookup 102 (.map (some mb)) (.int .i64 x) false).run Try.prog w = .ok (.slice B (F x).length c) w ∧ Found21 w base l x B (F x).length c (F x) := by
  rcases mapI_look law_int Try.underlying102 h.map h.keyed (key_int hx) (zero_ints w) with ⟨h1, h2⟩ | ⟨v, h1, h2⟩
  · have e := h.none x h1
    rw [e]
    exact ⟨Option.none, 0, h2, own_none _ _ _ _, rfl, Or.inr ⟨h1, rfl⟩⟩
  · obtain ⟨y, hy, e, B, c, e2, ho⟩ := h.rows _ h1
    injection e with _ e
    subst e
    simp only at e2 ho
    subst e2
    exact ⟨B, c, h2, ho, rfl, Or.inl h1⟩
theorem WithM.put {w w1 : World} {mb base n c i : Nat} {l : List (Value × Value)} {F : Int → List Nat} {x : Int} {B B' : Option Addr} {c' : Nat} {o : Obj} (h : WithM w mb base l F) (hmb : mb < base) (hx : wfI x) (hf : Found21 w base l x B n c (F x))
    (hg : (w.alloc o).grownBy w1 (Value.slice B n c).ownBlock) (ho : w1.ownsRow base 3 1 (.slice B' (n + 1) c') (n + 1) (nL (F x) ++ [.int .i64 i]))
    (hor : (Value.slice B' (n + 1) c').ownBlock = (Value.slice B n c).ownBlock ∨ (Value.slice B' (n + 1) c').ownBlock = some (w.alloc o).heap.size) :
    ∃ w2 l', (Instr.mapUpdate 102 (.map (some mb)) (.int .i64 x) (.slice B' (n + 1) c')).run Try.prog w1 = .ok () w2 ∧ w1.grownBy w2 (some mb) ∧ WithM w2 mb base l' (fun y => if y = x then F x ++ [i] else F y) := by
  have hvb : ∀ k, (Value.slice B n c).ownBlock = some k → base ≤ k := own_base hf.own
  have hm1 : MapAt w1 mb l := (h.map.grew ((Grew.refl w).alloc o)).kept hg (fun e => by have := hvb _ e.symm; omega)
  obtain ⟨w2, l', hrun, hm2, hg2, hsz, hn2, hmem⟩ := mapI_put law_int Try.underlying102 hm1 h.keyed h.nodup (key_int hx) (val := .slice B' (n + 1) c')
  have hkeep : ∀ p ∈ l, p.1 ≠ .int .i64 x → ∀ q ys, w.ownsRow base 3 1 p.2 q ys → w2.ownsRow base 3 1 p.2 q ys := fun p hp hpx q ys hr => by
    have h1 : w1.ownsRow base 3 1 p.2 q ys := own_grown (own_alloc hr o) hg fun k hk e => by
      rcases hf.there with ht | ⟨_, ht⟩
      · exact h.apart p hp _ ht hpx k hk e.symm
      · rw [ht] at e; cases e
    exact own_grown h1 hg2 fun k hk e => by
      have := own_base h1 k hk
      injection e with e
      omega
  refine ⟨w2, l', hrun, hg2, hm2, hn2, fun p hp => ?_, fun y hy => ?_, fun p hp q hq hpq k hk => ?_⟩
  · rcases (hmem p).1 hp with ⟨hp1, hp2⟩ | rfl
    · obtain ⟨y, hy, e, B1, c1, e2, hr⟩ := h.rows p hp1
      have hne : y ≠ x := fun e' => hp2 (by rw [e, e'])
      refine ⟨y, hy, e, B1, c1, ?_, ?_⟩
      · rw [if_neg hne]; exact e2
      · rw [if_neg hne]; exact hkeep p hp1 hp2 _ _ hr
    · have hl2 : (F x ++ [i]).length = n + 1 := by rw [List.length_append, ← hf.len]; rfl
      refine ⟨x, hx, rfl, B', c', ?_, ?_⟩
      · rw [if_pos rfl, hl2]
      · rw [if_pos rfl, hl2, ← nL_snoc]
        exact own_grown ho hg2 fun k hk e => by
          have := own_base ho k hk
          injection e with e
          omega
  · have hne : y ≠ x := fun e => hy (.int .i64 x, _) ((hmem _).2 (Or.inr rfl)) (by rw [e])
    rw [if_neg hne]
    refine h.none y fun p hp e => hy p ((hmem p).2 (Or.inl ⟨hp, fun e' => hne ?_⟩)) e
    rw [e] at e'
    injection e' with _ e'
  · have hnew : ∀ p ∈ l, p.1 ≠ .int .i64 x → ∀ k, p.2.ownBlock = some k → (Value.slice B' (n + 1) c').ownBlock ≠ some k := fun p hp hpx k hk e => by
      obtain ⟨y, _, _, B1, c1, e2, hr⟩ := h.rows p hp
      rcases hor with h1 | h1
      · rw [h1] at e
        rcases hf.there with ht | ⟨_, ht⟩
        · exact h.apart p hp _ ht hpx k hk e
        · rw [ht] at e; cases e
      · have := own_lt hr k hk
        rw [h1] at e
        injection e with e
        simp at e
        omega
    rcases (hmem p).1 hp with ⟨hp1, hp2⟩ | rfl
    · rcases (hmem q).1 hq with ⟨hq1, hq2⟩ | rfl
      · exact h.apart p hp1 q hq1 hpq k hk
      · exact hnew p hp1 hp2 k hk
    · rcases (hmem q).1 hq with ⟨hq1, hq2⟩ | rfl
      · exact fun e => hnew q hq1 hq2 k e hk
      · exact absurd rfl hpq
theorem WithM.grew {w w' : World} {mb base : Nat} {l : List (Value × Value)} {F : Int → List Nat} (h : WithM w mb base l F) (g : Grew w w') : WithM w' mb base l F :=
  ⟨h.map.grew g, h.nodup, fun p hp => by
    obtain ⟨x, hx, e, B, c, e2, hr⟩ := h.rows p hp
    exact ⟨x, hx, e, B, c, e2, own_grewU hr g⟩, h.none, h.apart⟩
theorem withM_new (w : World) (mb base : Nat) (hb : mb = w.heap.size) : WithM (w.alloc (.map #[] 0)) mb base [] (fun _ => []) :=
  ⟨map_new w mb hb, List.nodup_nil, fun p hp => (by cases hp), fun _ _ => rfl, fun p hp => (by cases hp)⟩
end Go.Proofs.Ytchogpdfdpbpfaa

/- Layer 21: all edges that hang together with one, by the program. Condition: no more than a million numbers. -/
namespace Go.Proofs.Ytchogpdfdpbpfaa
open Go.RowKit Go.Maps
attribute [local go_sem] more_cell more_frozen more_more more_setCell more_of_drew more_of_drewN lt_more le_more past_cell past_cell2 past_frozen past_frozen2 past_setCell past_setCell2 mid_cell mid_frozen mid_setCell
attribute [local go_sem ↓] Go.wp_at_zero Go.wp_at_succ

/-- Truths in a block. -/
def bsV (n : Nat) (f : Nat → Bool) : Array Value := ((List.range n).map fun i => Value.bool (f i)).toArray
theorem bsV_at (n : Nat) (f : Nat → Bool) (i : Nat) (h : i < n) : (bsV n f)[i]? = some (.bool (f i)) := by
  unfold bsV
  simp [h]
theorem bsV_set (n : Nat) (f : Nat → Bool) (a : Nat) (v : Bool) : (bsV n f).setIfInBounds a (.bool v) = bsV n (fun i => if i = a then v else f i) := by
  apply Array.ext_getElem?
  intro i
  rw [Array.getElem?_setIfInBounds]
  unfold bsV
  by_cases h : i < n
  · by_cases e : a = i
    · subst e; simp [h]
    · rw [if_neg e]; simp [h]; exact fun x => absurd x.symm e
  · by_cases e : a = i
    · subst e; simp [h]
    · rw [if_neg e]; simp [h]
theorem bsV_made (n : Nat) : madeCells #[.bool false] n = bsV n (fun _ => false) := by
  apply Array.ext'
  rw [toList_madeCells_one]
  unfold bsV
  simp only []
  apply List.ext_getElem?
  intro i
  by_cases h : i < n
  · simp [h]
  · simp [h]
theorem neBI : (3 : TypeId) ≠ 4 := by decide
/-- The map, as it is read: rows of numbers, wherever. -/
structure WithR (w : World) (mb : Nat) (l : List (Value × Value)) (F : Int → List Nat) : Prop where
  map : MapAt w mb l
  nodup : (l.map Prod.fst).Nodup
  rows : ∀ p ∈ l, ∃ x, wfI x ∧ p.1 = .int .i64 x ∧ ∃ B c, p.2 = .slice B (F x).length c ∧ TRow 0 w 3 B (nL (F x))
  lacks : ∀ x, (∀ p ∈ l, p.1 ≠ .int .i64 x) → F x = []
theorem WithM.read {w : World} {mb base : Nat} {l : List (Value × Value)} {F : Int → List Nat} (h : WithM w mb base l F) : WithR w mb l F :=
  ⟨h.map, h.nodup, fun p hp => by
    obtain ⟨x, hx, e, B, c, e2, hr⟩ := h.rows p hp
    rw [e2] at hr
    exact ⟨x, hx, e, B, c, e2, (TRow.own hr).low (Nat.zero_le _)⟩, h.none⟩
theorem WithR.keyed {w : World} {mb : Nat} {l : List (Value × Value)} {F : Int → List Nat} (h : WithR w mb l F) : ∀ p ∈ l, ∃ kl, keyOf Try.prog 3 p.1 = some kl := fun p hp => by
  obtain ⟨x, hx, e, _⟩ := h.rows p hp
  rw [e]
  exact ⟨_, key_int hx⟩
theorem WithR.turn {w w' : World} {mb : Nat} {l : List (Value × Value)} {F : Int → List Nat} (h : WithR w mb l F) (hm : w'.heap[mb]? = w.heap[mb]?) (hr : ∀ (b : Nat) (cur : Array Value), w.heap[b]? = some (.cells cur 3 (0, 0)) → b ≠ mb → (∃ p ∈ l, ∃ B n c, p.2 = .slice (some B) n c ∧ B.block = b) → w'.heap[b]? = w.heap[b]?) : WithR w' mb l F :=
  ⟨h.map.of hm, h.nodup, fun p hp => (by
    obtain ⟨x, hx, e, B, c, e2, ht⟩ := h.rows p hp
    refine ⟨x, hx, e, B, c, e2, ?_⟩
    rcases ht with ht | ⟨b, o, cur, rfl, hb0, hh, hc⟩
    · exact Or.inl ht
    · refine Or.inr ⟨b, o, cur, rfl, hb0, ?_, hc⟩
      rw [hr b cur hh (fun e' => ?_) ⟨p, hp, ⟨b, o, none⟩, _, _, e2, rfl⟩]
      · exact hh
      · obtain ⟨es, clock, hb, _⟩ := h.map
        rw [← e', hh] at hb
        exact absurd hb (by simp)), h.lacks⟩
theorem WithR.grew {w w' : World} {mb : Nat} {l : List (Value × Value)} {F : Int → List Nat} (h : WithR w mb l F) (g : Grew w w') : WithR w' mb l F := by
  obtain ⟨x, rfl⟩ := g
  exact h.turn (more_block w x mb h.map.lt) fun b cur hh _ _ => more_block w x b (heap_lt hh)
/-- Truths are set beside it. -/
theorem WithR.set {w : World} {mb g i : Nat} {cs : Array Value} {l : List (Value × Value)} {F : Int → List Nat} (h : WithR w mb l F) (hb : Blok w g 4 cs) (v : Value) : WithR (w.setCell ⟨g, i, none⟩ v) mb l F := by
  have k := (Turns.refl w g).set i v
  refine h.turn (k.block mb h.map.lt fun e => ?_) fun b cur hh _ _ => k.block b (heap_lt hh) fun e => ?_
  · obtain ⟨es, clock, hm, _⟩ := h.map
    unfold Blok at hb
    rw [← e, hm] at hb
    cases hb
  · unfold Blok at hb
    rw [← e, hh] at hb
    injection hb with hb
    injection hb with _ h2 _
    exact neBI h2
/-- A row of one's own, made behind all of the map's, grows. -/
theorem WithR.kept {w w' : World} {mb base n : Nat} {v : Value} {xs : List Value} {l : List (Value × Value)} {F : Int → List Nat} (h : WithR w mb l F) (hlow : ∀ p ∈ l, ∀ B n c, p.2 = .slice (some B) n c → B.block < base) (ho : w.ownsRow base 3 1 v n xs) (g : w.grownBy w' v.ownBlock) : WithR w' mb l F := by
  refine h.turn (g.block mb h.map.lt fun e => ?_) fun b cur hh _ hp => g.block b (heap_lt hh) fun e => ?_
  · rcases ho.2 with ⟨rfl, _⟩ | ⟨q, cap, cur, rfl, _, hh, _⟩
    · cases e
    · simp [Value.ownBlock] at e
      subst e
      obtain ⟨es, clock, hm, _⟩ := h.map
      rw [hm] at hh
      cases hh
  · obtain ⟨p, hp, B, n2, c, e2, rfl⟩ := hp
    have h1 := hlow p hp B n2 c e2
    have h2 := own_base ho _ e.symm
    omega
theorem WithR.rowOf {w : World} {mb n c : Nat} {B : Option Addr} {l : List (Value × Value)} {F : Int → List Nat} (h : WithR w mb l F) {x : Int} (hp : (.int .i64 x, .slice B n c) ∈ l ∨ F x = []) : Row w B (nL (F x)) := by
  rcases hp with hp | e
  · obtain ⟨y, hy, e, B2, c2, e2, ho⟩ := h.rows _ hp
    injection e with _ e
    subst e
    injection e2 with e2 _ _
    subst e2
    exact ho.plain
  · rw [e]
    exact Or.inl rfl
theorem WithR.look {w : World} {mb : Nat} {l : List (Value × Value)} {F : Int → List Nat} (h : WithR w mb l F) {x : Int} (hx : wfI x) :
    ∃ B c, (Instr.lookup 102 (.map (some mb)) (.int .i64 x) false).run Try.prog w = .ok (.slice B (F x).length c) w ∧ ((.int .i64 x, .slice B (F x).length c) ∈ l ∨ F x = []) := by
  rcases mapI_look law_int Try.underlying102 h.map h.keyed (key_int hx) (zero_ints w) with ⟨h1, h2⟩ | ⟨v, h1, h2⟩
  · have e := h.lacks x h1
    rw [e]
    exact ⟨none, 0, h2, Or.inr rfl⟩
  · obtain ⟨y, hy, e, B, c, e2, ho⟩ := h.rows _ h1
    injection e with _ e
    subst e
    simp only at e2
    subst e2
    exact ⟨B, c, h2, Or.inl h1⟩
theorem WithR.del {w : World} {mb : Nat} {l : List (Value × Value)} {F : Int → List Nat} (h : WithR w mb l F) {x : Int} (hx : wfI x) (ty : TypeId) :
    ∃ w' l', (Builtin.delete_ #[102, 3] ty #[.map (some mb), .int .i64 x]).run Try.prog w = .ok (.tuple #[]) w' ∧ w.grownBy w' (some mb) ∧ w'.heap.size = w.heap.size ∧ (∀ p ∈ l', p ∈ l) ∧ WithR w' mb l' (fun y => if y = x then [] else F y) := by
  obtain ⟨w', l', hrun, hm, hg, hsz, hn, hmem⟩ := mapI_del law_int Try.underlying102 h.map h.keyed h.nodup (key_int hx) ty
  refine ⟨w', l', hrun, hg, hsz, fun p hp => ((hmem p).1 hp).1, hm, hn, fun p hp => ?_, fun y hy => ?_⟩
  · obtain ⟨h1, h2⟩ := (hmem p).1 hp
    obtain ⟨y, hy, e, B, c, e2, ht⟩ := h.rows p h1
    have hne : y ≠ x := fun e' => h2 (by rw [e, e'])
    refine ⟨y, hy, e, B, c, ?_, ?_⟩
    · rw [if_neg hne]; exact e2
    · rw [if_neg hne]
      refine ht.block fun b cur _ hh => hg.block b (heap_lt hh) fun e' => ?_
      injection e' with e'
      obtain ⟨es, clock, hb, _⟩ := h.map
      rw [← e', hh] at hb
      cases hb
  · by_cases e : y = x
    · rw [if_pos e]
    · rw [if_neg e]
      exact h.lacks y fun p hp e2 => hy p ((hmem p).2 ⟨hp, fun e3 => e (by rw [e2] at e3; injection e3)⟩) e2
end Go.Proofs.Ytchogpdfdpbpfaa

/- Layer 21: all edges that hang together with one, step by step. Condition: no more than a million numbers. -/
namespace Go.Proofs.Ytchogpdfdpbpfaa
open Go.RowKit Go.Maps

theorem Keep2.map {w w' w'' : World} {g h : Nat} (a : Keep2 w w' g h) (k : w'.grownBy w'' (some g)) : Keep2 w w'' g h :=
  ⟨k.os.trans a.os, k.tape.trans a.tape, k.output.trans a.output, Nat.le_trans a.size k.size, fun i hi n1 n2 => (k.block i (Nat.lt_of_lt_of_le hi a.size) (fun e => n1 (by injection e))).trans (a.block i hi n1 n2)⟩
def okI (h : List (List Int)) (f : Nat) (part : List Nat) (k : Nat) : Prop := partR h k < f ∨ k ∈ part
/-- What has been told of a part, as far as it goes. -/
structure FlS (h : List (List Int)) (n f mb gt : Nat) (w0 w : World) (l : List (Value × Value)) (F : Int → List Nat) (tk : Nat → Bool) (part : List Nat) (A : Option Addr) (c : Nat) (wr : World) : Prop where
  grew : Grew w0 wr
  keep : Keep2 w wr mb gt
  rows : WithR wr mb l F
  low : ∀ p ∈ l, ∀ B m c, p.2 = .slice (some B) m c → B.block < w.heap.size
  taken : Blok wr gt 4 (bsV n tk)
  own : wr.ownsRow w.heap.size 3 1 (.slice A part.length c) part.length (nL part)
  i1 : ∀ k, k < n → (tk k = true ↔ okI h f part k)
  nodup : part.Nodup
  mem : ∀ p ∈ part, p < n ∧ partR h p = f
  i3 : ∀ x, wfI x → (F x = [] ∧ ∀ k, k < n → x ∈ edgeAt h k → okI h f part k) ∨ (∀ k, k ∈ F x ↔ k < n ∧ x ∈ edgeAt h k)
  short : ∀ x, (F x).length ≤ 1000000
section
variable {h : List (List Int)} {n f mb gt : Nat} {w0 w wr : World} {l : List (Value × Value)} {F : Int → List Nat} {tk : Nat → Bool} {part : List Nat} {A : Option Addr} {c : Nat}
theorem FlS.few (s : FlS h n f mb gt w0 w l F tk part A c wr) : part.length ≤ n := by
  have := s.nodup.length_le_of_subset (l₂ := List.range n) fun p hp => List.mem_range.2 (s.mem p hp).1
  simpa using this
theorem okI.more {k m : Nat} (h1 : okI h f part k) : okI h f (part ++ [m]) k := h1.imp id fun h2 => List.mem_append_left _ h2
theorem FlS.size (s : FlS h n f mb gt w0 w l F tk part A c wr) (hgt : gt < w.heap.size) : gt < wr.heap.size := Nat.lt_of_lt_of_le hgt s.keep.size
/-- One more edge is taken. -/
theorem FlS.take (s : FlS h n f mb gt w0 w l F tk part A c wr) (hgt : gt < w.heap.size) (h0 : w0.heap.size ≤ gt) (hw : w0.heap.size ≤ w.heap.size) {k : Nat} (hk : k < n) (hr : partR h k = f) (hnk : tk k = false) (o : Obj) {A' : Option Addr} {c' : Nat} {w' : World}
    (ho : w'.ownsRow w.heap.size 3 1 (.slice A' (part.length + 1) c') (part.length + 1) (nL part ++ [.int .i64 k])) (hg : ((wr.setCell ⟨gt, k, none⟩ (.bool true)).alloc o).grownBy w' (Value.slice A part.length c).ownBlock) :
    FlS h n f mb gt w0 w l F (fun i => if i = k then true else tk i) (part ++ [k]) A' c' w' := by
  have hnp : k ∉ part := fun hm => by
    have := (s.i1 k hk).2 (Or.inr hm)
    rw [hnk] at this
    cases this
  have hrow : ∀ i, (Value.slice A part.length c).ownBlock = some i → w.heap.size ≤ i := own_base s.own
  have ho2 : (wr.setCell ⟨gt, k, none⟩ (.bool true)).ownsRow w.heap.size 3 1 (.slice A part.length c) part.length (nL part) := own_aside2 (p := ⟨gt, k, none⟩) s.own (fun q hq => by have := hrow q hq; show q ≠ gt; omega) _
  have e1 : (part ++ [k]).length = part.length + 1 := by simp
  refine ⟨((s.grew.setCell (a := ⟨gt, k, none⟩) h0 _).alloc o).grown hg fun i hi => Nat.le_trans hw (hrow i hi), ((s.keep.set ⟨gt, k, none⟩ (Or.inr rfl) _).on ((Grew.refl _).alloc o)).grown hg hrow, ?_, s.low, ?_, ?_, fun i hi => ?_, ?_, fun p hp => ?_, fun x hx => ?_, s.short⟩
  · exact ((s.rows.set s.taken (.bool true)).grew ((Grew.refl _).alloc o)).kept (base := w.heap.size) s.low (own_alloc ho2 o) hg
  · have := ((s.taken.set k (.bool true)).alloc o).grown hg (fun e => by have := hrow _ e; omega)
    rw [bsV_set] at this
    exact this
  · rw [e1, ← nL_snoc]
    exact ho
  · by_cases e : i = k
    · subst e
      simp only [if_pos trivial, true_iff]
      exact Or.inr (by simp)
    · simp only [if_neg e]
      rw [s.i1 i hi]
      refine ⟨okI.more, fun h2 => h2.imp id fun h3 => ?_⟩
      rcases List.mem_append.1 h3 with h3 | h3
      · exact h3
      · exact absurd (List.mem_singleton.1 h3) e
  · rw [List.nodup_append]
    exact ⟨s.nodup, by simp, fun a ha b hb e => by simp at hb; subst hb; subst e; exact hnp ha⟩
  · rcases List.mem_append.1 hp with hp | hp
    · exact s.mem p hp
    · rw [List.mem_singleton.1 hp]; exact ⟨hk, hr⟩
  · rcases s.i3 x hx with ⟨h1, h2⟩ | h1
    · exact Or.inl ⟨h1, fun i hi hxi => (h2 i hi hxi).more⟩
    · exact Or.inr h1
/-- A vertex is struck. -/
theorem FlS.del (s : FlS h n f mb gt w0 w l F tk part A c wr) (hm0 : w0.heap.size ≤ mb) (hmw : mb < w.heap.size) {x : Int} (hall : ∀ k, k < n → x ∈ edgeAt h k → okI h f part k) {l' : List (Value × Value)} {w' : World} (hg : wr.grownBy w' (some mb)) (hsub : ∀ p ∈ l', p ∈ l) (hr : WithR w' mb l' (fun y => if y = x then [] else F y)) (hne : mb ≠ gt) :
    FlS h n f mb gt w0 w l' (fun y => if y = x then [] else F y) tk part A c w' := by
  have hrow : ∀ i, (Value.slice A part.length c).ownBlock = some i → w.heap.size ≤ i := own_base s.own
  refine ⟨s.grew.grown hg (fun k hk => by injection hk with hk; omega), s.keep.map hg, hr, fun p hp => s.low p (hsub p hp), s.taken.grown hg (fun e => by injection e with e; exact hne e), own_grown s.own hg (fun k hk e => by injection e with e; have := hrow k hk; omega), s.i1, s.nodup, s.mem, fun y hy => ?_, fun y => (by split; exact Nat.zero_le _; exact s.short y)⟩
  by_cases e : y = x
  · subst e
    exact Or.inl ⟨if_pos rfl, hall⟩
  · rcases s.i3 y hy with ⟨h1, h2⟩ | h1
    · exact Or.inl ⟨by rw [if_neg e]; exact h1, h2⟩
    · exact Or.inr (by simp only [if_neg e]; exact h1)
/-- All of a vertex' edges are there, once those that the map tells are. -/
theorem FlS.closed (s : FlS h n f mb gt w0 w l F tk part A c wr) {x : Int} (hx : wfI x) (hall : ∀ k ∈ F x, okI h f part k) : ∀ k, k < n → x ∈ edgeAt h k → okI h f part k := by
  intro k hk hxk
  rcases s.i3 x hx with ⟨_, h2⟩ | h1
  · exact h2 k hk hxk
  · exact hall k ((h1 k).2 ⟨hk, hxk⟩)
theorem FlS.there (s : FlS h n f mb gt w0 w l F tk part A c wr) {x : Int} (hx : wfI x) {k : Nat} (hk : k ∈ F x) : k < n ∧ x ∈ edgeAt h k := by
  rcases s.i3 x hx with ⟨h1, _⟩ | h1
  · rw [h1] at hk; cases hk
  · exact (h1 k).1 hk
theorem FlS.on {w' : World} (s : FlS h n f mb gt w0 w l F tk part A c wr) (g : Grew wr w') : FlS h n f mb gt w0 w l F tk part A c w' :=
  ⟨s.grew.trans g, s.keep.on g, s.rows.grew g, s.low, s.taken.grew g, own_grewU s.own g, s.i1, s.nodup, s.mem, s.i3, s.short⟩
end
end Go.Proofs.Ytchogpdfdpbpfaa

/- Layer 21: all edges that hang together with one, by the program: the walk. Condition: no more than a thousand edges. -/
namespace Go.Proofs.Ytchogpdfdpbpfaa
open Go.RowKit Go.Maps
attribute [local go_sem] more_cell more_frozen more_more more_setCell more_of_drew more_of_drewN lt_more le_more past_cell past_cell2 past_frozen past_frozen2 past_setCell past_setCell2 mid_cell mid_frozen mid_setCell
attribute [local go_sem ↓] Go.wp_at_zero Go.wp_at_succ

section
variable {w : World} {ops : Array Oper} {rest : List Oper} {o : Oper} {a : Act} {Q : Exit → Act → World → Prop} {mb : Nat} {l : List (Value × Value)} {F : Int → List Nat}
theorem wpList_wlook (hg : o.guard = none) (m x : Operand) (hop : o.op = Op.lookup 102 m x false) (hm : a.eval m = .map (some mb)) (h : WithR w mb l F) (z : Int) (hz : wfI z) (hx : a.eval x = .int .i64 z)
    (hK : ∀ B c, ((.int .i64 z, .slice B (F z).length c) ∈ l ∨ F z = []) → wpList Try.prog ops Q rest (a.put o.dst (.slice B (F z).length c)) w) : wpList Try.prog ops Q (o :: rest) a w := by
  refine wpList_plain hg fun K' hK' => ?_
  obtain ⟨B, c, hrun, h1⟩ := h.look hz
  unfold Oper.wp
  simp [execOp, hop, hm, hx, hrun, Result.andThen]
  exact hK' _ _ (hK B c h1)
theorem wpList_wdel (hg : o.guard = none) (m x : Operand) (hop : o.op = Op.call { callee := Callee.builtin Builtin.delete, args := #[m, x], argTypes := #[102, 3] }) (hm : a.eval m = .map (some mb)) (h : WithR w mb l F) (z : Int) (hz : wfI z) (hx : a.eval x = .int .i64 z)
    (hK : ∀ w' l', w.grownBy w' (some mb) → w'.heap.size = w.heap.size → (∀ p ∈ l', p ∈ l) → WithR w' mb l' (fun y => if y = z then [] else F y) → wpList Try.prog ops Q rest (a.put o.dst (.tuple #[])) w') : wpList Try.prog ops Q (o :: rest) a w := by
  refine wpList_plain hg fun K' hK' => ?_
  obtain ⟨w', l', hrun, h1, h2, h3, h4⟩ := h.del hz o.type
  unfold Oper.wp
  simp [execOp, hop, resolve, invoke, builtin, hm, hx, hrun, Result.andThen]
  exact hK' _ _ (hK w' l' h1 h2 h3 h4)
end
/-- All of a part has come. -/
structure FloodF (h : List (List Int)) (n f mb gt : Nat) (w0 w : World) (l : List (Value × Value)) (e : Ending) (w' : World) : Prop where
  ends : ∃ B c l' F' tk', e = .returned (.slice B (clsL n (partR h) f).length c) ∧ Grew w0 w' ∧ Keep2 w w' mb gt ∧ WithR w' mb l' F' ∧ (∀ p ∈ l', p ∈ l) ∧ Blok w' gt 4 (bsV n tk') ∧
    w'.ownsRow w.heap.size 3 1 (.slice B (clsL n (partR h) f).length c) (clsL n (partR h) f).length (nL (clsL n (partR h) f)) ∧ (∀ k, k < n → (tk' k = true ↔ partR h k < f + 1)) ∧ (∀ x, (F' x).length ≤ 1000000) ∧
    ∀ x, wfI x → (F' x = [] ∧ ∀ k, k < n → x ∈ edgeAt h k → partR h k < f + 1) ∨ (∀ k, k ∈ F' x ↔ k < n ∧ x ∈ edgeAt h k)
def FlO (h : List (List Int)) (n f mb gt : Nat) (w0 w : World) (l0 : List (Value × Value)) (v i : Value) (wr : World) : Prop :=
  ∃ (a : Nat) (part : List Nat) (A : Option Addr) (c : Nat) (l : List (Value × Value)) (F : Int → List Nat) (tk : Nat → Bool), v = .slice A part.length c ∧ i = .int .i64 a ∧ a ≤ part.length ∧ f ∈ part ∧ (∀ p ∈ l, p ∈ l0) ∧ FlS h n f mb gt w0 w l F tk part A c wr ∧
    ∀ (j p : Nat), j < a → part[j]? = some p → ∀ x ∈ edgeAt h p, F x = []
def FlM (h : List (List Int)) (n f mb gt : Nat) (w0 w : World) (l0 : List (Value × Value)) (a p : Nat) (v i : Value) (wr : World) : Prop :=
  ∃ (q : Nat) (part : List Nat) (A : Option Addr) (c : Nat) (l : List (Value × Value)) (F : Int → List Nat) (tk : Nat → Bool), v = .slice A part.length c ∧ i = .int .i64 q ∧ q ≤ (edgeAt h p).length ∧ f ∈ part ∧ part[a]? = some p ∧ (∀ p ∈ l, p ∈ l0) ∧ FlS h n f mb gt w0 w l F tk part A c wr ∧
    (∀ (j p : Nat), j < a → part[j]? = some p → ∀ x ∈ edgeAt h p, F x = []) ∧ ∀ x ∈ (edgeAt h p).take q, F x = []
def FlI (h : List (List Int)) (n f mb gt : Nat) (w0 w : World) (a p : Nat) (l : List (Value × Value)) (F : Int → List Nat) (x : Int) (v i : Value) (wr : World) : Prop :=
  ∃ (s : Nat) (part : List Nat) (A : Option Addr) (c : Nat) (tk : Nat → Bool), v = .slice A part.length c ∧ i = .int .i64 s ∧ s ≤ (F x).length ∧ f ∈ part ∧ part[a]? = some p ∧ FlS h n f mb gt w0 w l F tk part A c wr ∧
    (∀ (j p : Nat), j < a → part[j]? = some p → ∀ x ∈ edgeAt h p, F x = []) ∧ ∀ k ∈ (F x).take s, okI h f part k
theorem nL_row {w : World} {B : Option Addr} {l : List Nat} (h : Row w B (nL l)) {k : Nat} (hk : k < l.length) : ∃ b o, B = some ⟨b, o, none⟩ ∧ b < w.heap.size ∧ w.cell? ⟨b, o + k, none⟩ = some (.int .i64 (l[k] : Nat)) := row_nat h hk
theorem own_rowN {w : World} {base n c : Nat} {A : Option Addr} {l : List Nat} (h : w.ownsRow base 3 1 (.slice A n c) n (nL l)) : Row w A (nL l) := by
  obtain ⟨A', c', e, hr⟩ := own_row h
  injection e with e _ _
  subst e
  exact hr
set_option maxHeartbeats 1000000 in
set_option maxRecDepth 100000 in
theorem flood_any (h : List (List Int)) (n : Nat) (hn : h.length = n) (hn1 : n ≤ 1000) (hw : wfG h) (hel : ∀ e ∈ h, e.length ≤ 1000) (A : Option Addr) (ka : Nat) (w0 w : World) (g0 : Grew w0 w) (ra : GridI (PRow w0) A h) (mb gt : Nat)
    (hm0 : w0.heap.size ≤ mb) (ht0 : w0.heap.size ≤ gt) (hmt : mb ≠ gt) (l : List (Value × Value)) (F : Int → List Nat) (hF : WithR w mb l F) (hlow : ∀ p ∈ l, ∀ B m c, p.2 = .slice (some B) m c → B.block < w.heap.size) (tk : Nat → Bool) (hT : Blok w gt 4 (bsV n tk))
    (f : Nat) (hf : f < n) (hff : partR h f = f) (hI1 : ∀ k, k < n → (tk k = true ↔ partR h k < f)) (hI3 : ∀ x, wfI x → (F x = [] ∧ ∀ k, k < n → x ∈ edgeAt h k → partR h k < f) ∨ (∀ k, k ∈ F x ↔ k < n ∧ x ∈ edgeAt h k)) (hFs : ∀ x, (F x).length ≤ 1000000) (cb : Nat) :
    Calls Try.prog 68 #[.slice A n ka, .map (some mb), .slice (some ⟨gt, 0, none⟩) n cb, .int .i64 f] w (FloodF h n f mb gt w0 w l) := by
  have RA := Lib.hid ra
  have HW := Lib.hid hw
  have HN := Lib.hid hn
  have HEl := Lib.hid hel
  have hgtw := hT.lt
  have hmw := hF.map.lt
  have h0w := g0.size
  have HS0 : Hid (FlS h n f mb gt w0 w l F (fun i => if i = f then true else tk i) [f] (some ⟨w.heap.size, 0, none⟩) 1 ((w.alloc (.cells #[.int .i64 f] 3)).setCell ⟨gt, f, none⟩ (.bool true))) := Lib.hid (by
    have hT2 : Blok (w.alloc (.cells #[.int .i64 f] 3)) gt 4 (bsV n tk) := hT.alloc _
    refine ⟨(g0.alloc _).setCell (a := ⟨gt, f, none⟩) ht0 _, ((Keep2.refl w mb gt).on ((Grew.refl w).alloc _)).set ⟨gt, f, none⟩ (Or.inr rfl) _, (hF.grew ((Grew.refl w).alloc _)).set hT2 _, hlow, ?_, ?_, fun k hk => ?_, by simp, fun p hp => ?_, fun x hx => ?_, hFs⟩
    · have := hT2.set f (.bool true)
      rw [bsV_set] at this
      exact this
    · exact own_aside2 (p := ⟨gt, f, none⟩) (own_one w _ 3 w.heap.size (.int .i64 f) rfl (Nat.le_refl _)) (fun q hq => by simp [Value.ownBlock] at hq; subst hq; show w.heap.size ≠ gt; omega) _
    · by_cases e : k = f
      · subst e
        simp only [if_pos trivial, true_iff]
        exact Or.inr (by simp)
      · simp only [if_neg e]
        rw [hI1 k hk]
        exact ⟨Or.inl, fun h => h.elim id fun h => absurd (List.mem_singleton.1 h) e⟩
    · rw [List.mem_singleton.1 hp]; exact ⟨hf, hff⟩
    · exact (hI3 x hx).imp (fun h => ⟨h.1, fun k hk hxk => Or.inl (h.2 k hk hxk)⟩) id)
  have HFin : Hid (∀ (part : List Nat) A' c l' F' tk' wr, f ∈ part → (∀ p ∈ l', p ∈ l) → FlS h n f mb gt w0 w l' F' tk' part A' c wr → (∀ (j p : Nat), j < part.length → part[j]? = some p → ∀ x ∈ edgeAt h p, F' x = []) →
      ((clsL n (partR h) f).length = part.length ∧ sortI (part.map fun (a : Nat) => (a : Int)) = (clsL n (partR h) f).map fun (a : Nat) => (a : Int)) ∧ ∀ w', wr.grownBy w' (Value.slice A' part.length c).ownBlock → w'.ownsRow w.heap.size 3 1 (.slice A' part.length c) part.length (nL (clsL n (partR h) f)) → FloodF h n f mb gt w0 w l (.returned (.slice A' part.length c)) w') := Lib.hid (by
    intro part A' c l' F' tk' wr hfp hsub s hdone
    have hall := part_all hff hfp (fun p hp => by rw [hn]; exact s.mem p hp) (fun p hp x hx k hk hxk => by
      have hwx : wfI x := by
        unfold edgeAt at hx
        rw [List.getD_eq_getElem?_getD] at hx
        have hpl := (s.mem p hp).1
        rw [← hn] at hpl
        rw [List.getElem?_eq_getElem hpl] at hx
        exact hw _ (List.getElem_mem hpl) x hx
      obtain ⟨j, hj⟩ := List.mem_iff_getElem?.1 hp
      have hF0 := hdone j p (List.getElem?_eq_some_iff.1 hj).1 hj x hx
      rw [hn] at hk
      rcases s.i3 x hwx with ⟨_, h2⟩ | h1
      · exact h2 k hk hxk
      · have := (h1 k).2 ⟨hk, hxk⟩
        rw [hF0] at this
        cases this)
    rw [hn] at hall
    have hcls : ∀ k, k ∈ part ↔ k < n ∧ partR h k = f := fun k => ⟨fun hp => s.mem k hp, fun hp => (hall k hp.1).2 hp.2⟩
    have hsort := sort_class s.nodup hcls
    have hlen : (clsL n (partR h) f).length = part.length := by
      have := congrArg List.length hsort
      rw [sortI_len, List.length_map, List.length_map] at this
      exact this.symm
    refine ⟨⟨hlen, hsort⟩, fun w' hg ho => ⟨A', c, l', F', tk', by rw [hlen], s.grew.grown hg fun k hk => ?_, s.keep.grown hg (own_base s.own), ?_, hsub, s.taken.grown hg fun e => ?_, by rw [hlen]; exact ho, fun k hk => ?_, s.short, fun x hx => ?_⟩⟩
    · have := own_base s.own k hk; omega
    · exact s.rows.kept s.low s.own hg
    · have := own_base s.own _ e; omega
    · rw [s.i1 k hk]
      refine ⟨fun h1 => h1.elim (fun h => by omega) fun h => by have := (hall k hk).1 h; omega, fun h1 => ?_⟩
      rcases Nat.lt_or_ge (partR h k) f with h2 | h2
      · exact Or.inl h2
      · exact Or.inr ((hall k hk).2 (by omega))
    · refine (s.i3 x hx).imp (fun h1 => ⟨h1.1, fun k hk hxk => ?_⟩) id
      rcases h1.2 k hk hxk with h2 | h2
      · omega
      · have := (hall k hk).1 h2; omega)
  have t0 := hT.cell f
  rw [bsV_at n tk f hf] at t0
  have t1 := hT.thaw f
  clear ra hw hn hel hT hF hI1 hI3 hlow hFs
  generalize FloodF h n f mb gt w0 w l = FF at *
  have hnf : (f : Int) < n := by omega
  go_enter Try.func68, Try.ntmps68
  go_upto_region 4 with fail
  obtain ⟨W0, hW0⟩ : ∃ W0, W0 = ((w.alloc (.cells #[.int .i64 f] 3)).setCell ⟨gt, f, none⟩ (.bool true)) := ⟨_, rfl⟩
  rw [← hW0] at HS0
  rw [alloc_setCell w _ ⟨gt, f, none⟩ _ hgtw] at hW0
  rw [← hW0]
  clear hW0 t0 t1
  go_loopw [9, 10] (fun v i wr => FlO h n f mb gt w0 w l v i wr) (fun _ i _ => n - (intOf i).toNat)
  case atStart => exact ⟨0, [f], _, 1, l, F, _, rfl, rfl, Nat.zero_le _, by simp, fun p hp => hp, HS0.out, fun j p hj => by omega⟩
  case round =>
    obtain ⟨a, part, A1, c, l1, F1, tk1, rfl, rfl, ha, hfp, hsub, hs, hdone⟩ := hrel
    have HS := Lib.hid hs
    have HSub := Lib.hid hsub
    have HDone := Lib.hid hdone
    have HFp := Lib.hid hfp
    have hfew := hs.few
    clear hs hsub hdone hfp HS0
    by_cases h1 : a < part.length
    · obtain ⟨b1, o1, rfl, hb1, hc1⟩ := nL_row (own_rowN HS.out.own) h1
      obtain ⟨p, hp⟩ : ∃ p, part[a] = p := ⟨_, rfl⟩
      rw [hp] at hc1
      have hpa : part[a]? = some p := by rw [List.getElem?_eq_getElem h1, hp]
      have HPa := Lib.hid hpa
      obtain ⟨hpn, hpr⟩ := HS.out.mem p (List.mem_of_getElem? hpa)
      have hph : p < h.length := by rw [HN.out]; exact hpn
      obtain ⟨b2, o2, B, c2, rfl, hb2', hc2', hr2⟩ := gridI_at RA.out hph
      have hb2 := Nat.lt_of_lt_of_le hb2' HS.out.grew.size
      have hc2 := (HS.out.grew.cell (a := ⟨b2, o2 + p, none⟩) hb2').trans hc2'
      have hedge : edgeAt h p = h[p] := edgeAt_eq hph
      have HEd := Lib.hid hedge
      have HWe := Lib.hid (HW.out _ (List.getElem_mem hph))
      have hel := HEl.out _ (List.getElem_mem hph)
      have HRe := Lib.hid (fun W (hW : Grew w0 W) => hr2.grew hW)
      have hpn' : (p : Int) < n := by omega
      have HPr := Lib.hid hpr
      rw [← hedge] at HWe hel HRe hc2
      obtain ⟨e, he⟩ : ∃ e, edgeAt h p = e := ⟨_, rfl⟩
      have HEp := Lib.hid he
      rw [he] at HWe hel HRe hc2
      clear hb2' hc2' hr2 hpa hp hedge hpr he HEd hph
      go_wp2
      go_loopw [9, 34] (fun v i wx => FlM h n f mb gt w0 w l a p v i wx) (fun _ i _ => e.length - (intOf i).toNat)
      case atStart => exact ⟨0, part, _, c, l1, F1, tk1, rfl, rfl, Nat.zero_le _, HFp.out, HPa.out, HSub.out, HS.out, HDone.out, by simp⟩
      case round =>
        obtain ⟨q, part2, A2, c3, l2, F2, tk2, rfl, rfl, hq, hfp2, hpa2, hsub2, hs2, hdone2, hst2⟩ := hrel
        rw [HEp.out] at hq hst2
        have HS2 := Lib.hid hs2
        have HSub2 := Lib.hid hsub2
        have HDone2 := Lib.hid hdone2
        have HFp2 := Lib.hid hfp2
        have HPa2 := Lib.hid hpa2
        have HSt2 := Lib.hid hst2
        have hfew2 := hs2.few
        clear hs2 hsub2 hdone2 hfp2 hpa2 hst2 HS HSub HDone HFp HPa hb1 hc1 hb2 hc2 hfew
        by_cases h2 : q < e.length
        · obtain ⟨b3, o3, rfl, hb3, hc3⟩ := rowI_at (HRe.out _ HS2.out.grew) h2
          have HWx := Lib.hid (HWe.out _ (List.getElem_mem h2))
          have HXe : Hid (e[q] ∈ edgeAt h p) := Lib.hid (by rw [HEp.out]; exact List.getElem_mem h2)
          have HTk : Hid (∀ y ∈ e.take (q + 1), y = e[q] ∨ y ∈ e.take q) := Lib.hid fun y hy => by
            rw [List.take_succ_eq_append_getElem h2] at hy
            rcases List.mem_append.1 hy with hy | hy
            · exact Or.inr hy
            · exact Or.inl (List.mem_singleton.1 hy)
          generalize e[q] = x at *
          go_wp2_with (at_lookup; refine wpList_wlook rfl _ _ rfl rfl HS2.out.rows x HWx.out rfl ?_; intro B4 c4 h4; have H4 := Lib.hid h4; clear h4)
          clear hb3 hc3
          go_loopw [9, 42] (fun v i wy => FlI h n f mb gt w0 w a p l2 F2 x v i wy) (fun _ i _ => (F2 x).length - (intOf i).toNat)
          case atStart => exact ⟨0, part2, A2, c3, tk2, rfl, rfl, Nat.zero_le _, HFp2.out, HPa2.out, HS2.out, HDone2.out, by simp⟩
          case round =>
            obtain ⟨s, part3, A3, c5, tk3, rfl, rfl, hsl, hfp3, hpa3, hs3, hdone3, hok3⟩ := hrel
            have HS3 := Lib.hid hs3
            have HDone3 := Lib.hid hdone3
            have HFp3 := Lib.hid hfp3
            have HPa3 := Lib.hid hpa3
            have HOk3 := Lib.hid hok3
            have hfew3 := hs3.few
            have hsh3 := hs3.short x
            clear hs3 hdone3 hfp3 hpa3 hok3 HS2 HDone2 HFp2 HPa2 hfew2
            by_cases h3 : s < (F2 x).length
            · obtain ⟨b5, o5, rfl, hb5, hc5⟩ := nL_row (HS3.out.rows.rowOf H4.out) h3
              obtain ⟨hkn, hxk⟩ := HS3.out.there HWx.out (List.getElem_mem h3)
              have hrk : partR h (F2 x)[s] = f := by
                rw [← HPr.out]
                exact partR_shares (by rw [HN.out]; exact hkn) (by rw [HN.out]; omega) x hxk HXe.out
              have HOkS : Hid (∀ (P : List Nat), (∀ k, okI h f part3 k → okI h f P k) → okI h f P (F2 x)[s] → ∀ k ∈ (F2 x).take (s + 1), okI h f P k) := Lib.hid fun P hP hk k hkm => by
                rw [List.take_succ_eq_append_getElem h3] at hkm
                rcases List.mem_append.1 hkm with hkm | hkm
                · exact hP k (HOk3.out k hkm)
                · rw [List.mem_singleton.1 hkm]; exact hk
              generalize (F2 x)[s] = k at *
              have t0 := HS3.out.taken.cell k
              rw [bsV_at n tk3 k hkn] at t0
              have t1 := HS3.out.taken.thaw k
              have t2 := HS3.out.taken.lt
              have hkn' : (k : Int) < n := by omega
              have HRk := Lib.hid hrk
              clear hrk hxk
              cases htk : tk3 k
              · rw [htk] at t0
                have HTake := Lib.hid (fun A' c' w' o ho hg => HS3.out.take (A' := A') (c' := c') (w' := w') hgtw ht0 h0w hkn HRk.out htk o ho hg)
                have HOw : Hid (World.ownsRow (wr.setCell ⟨gt, k, none⟩ (.bool true)) w.heap.size 3 1 (.slice A3 part3.length c5) part3.length (nL part3)) := Lib.hid (own_aside2 (p := ⟨gt, k, none⟩) HS3.out.own (fun q hq => by have := own_base HS3.out.own q hq; show q ≠ gt; omega) _)
                have hkeepsz : w.heap.size ≤ wr.heap.size := HS3.out.keep.size
                clear htk
                go_wp2_with (at_builtin; refine wpList_appB rfl _ _ 37 3 1 rfl w.heap.size (.int .i64 0) 8 Try.underlying37 infoI rfl (by decide) (by decide) _ part3.length (nL part3) rfl (own_alloc HOw.out _) _ 1 1 [.int .i64 k] rfl rfl (row_one _ _ _ _ (by simp)) (by simp [Value.oneCell']) (by omega) (by rw [World.size_alloc, World.size_setCell]; omega) ?_; intro A9 c9 w9 ho9 hg9; have HF9 := Lib.hid (HTake.out A9 c9 w9 _ ho9 hg9); clear ho9 hg9)
                refine ⟨⟨s + 1, part3 ++ [k], A9, c9, _, by simp, by go_num, by omega, List.mem_append_left _ HFp3.out, ?_, HF9.out, fun j p' hj hp' => ?_, HOkS.out _ (fun k' h => h.more) (Or.inr (by simp))⟩, by simp only [intOf]; omega⟩
                · rw [List.getElem?_append_left (List.getElem?_eq_some_iff.1 HPa3.out).1]
                  exact HPa3.out
                · have hal := (List.getElem?_eq_some_iff.1 HPa3.out).1
                  rw [List.getElem?_append_left (by omega)] at hp'
                  exact HDone3.out j p' hj hp'
              · rw [htk] at t0
                have HOk := Lib.hid ((HS3.out.i1 k hkn).1 htk)
                clear htk
                go_wp2
                exact ⟨⟨s + 1, part3, A3, c5, tk3, rfl, by go_num, by omega, HFp3.out, HPa3.out, HS3.out, HDone3.out, HOkS.out _ (fun k' h => h) HOk.out⟩, by simp only [intOf]; omega⟩
            · obtain rfl : s = (F2 x).length := by omega
              rw [List.take_length] at HOk3
              have HCl := Lib.hid (HS3.out.closed HWx.out HOk3.out)
              go_wp2_with (at_delete; refine wpList_wdel rfl _ _ rfl rfl HS3.out.rows x HWx.out rfl ?_; intro w9 l9 hg9 hsz9 hsub9 hr9; have HD9 := Lib.hid (HS3.out.del hm0 hmw HCl.out hg9 hsub9 hr9 hmt); have HSub9 := Lib.hid hsub9; clear hg9 hsz9 hsub9 hr9)
              refine ⟨⟨q + 1, part3, A3, c5, l9, _, tk3, rfl, by go_num, by rw [HEp.out]; omega, HFp3.out, HPa3.out, fun p' hp' => HSub2.out p' (HSub9.out p' hp'), HD9.out, fun j p' hj hp' y hy => ?_, fun y hy => ?_⟩, by simp only [intOf]; omega⟩
              · split
                · rfl
                · exact HDone3.out j p' hj hp' y hy
              · rw [HEp.out] at hy
                split
                · rfl
                · rename_i hne
                  exact HSt2.out y ((HTk.out y hy).elim (fun e' => absurd e' hne) id)
        · obtain rfl : q = e.length := by omega
          rw [List.take_length] at HSt2
          have hal := (List.getElem?_eq_some_iff.1 HPa2.out).1
          go_wp2
          refine ⟨⟨a + 1, part2, A2, c3, l2, F2, tk2, rfl, by go_num, by omega, HFp2.out, HSub2.out, HS2.out, fun j p' hj hp' y hy => ?_⟩, by simp only [intOf]; omega⟩
          rcases Nat.lt_or_ge j a with h5 | h5
          · exact HDone2.out j p' h5 hp' y hy
          · obtain rfl : j = a := by omega
            rw [HPa2.out] at hp'
            injection hp' with hp'
            subst hp'
            rw [HEp.out] at hy
            exact HSt2.out y hy
    · obtain rfl : a = part.length := by omega
      obtain ⟨⟨hcl, hso⟩, hfin⟩ := HFin.out part A1 c l1 F1 tk1 wr HFp.out HSub.out HS.out HDone.out
      have hnl : ∀ L : List Nat, nL L = iV (L.map fun (a : Nat) => (a : Int)) := fun L => by simp [nL, iV]
      have HSo := Lib.hid (sort_own (part.map fun (a : Nat) => (a : Int)) (by rw [List.length_map]; omega) A1 c w.heap.size wr (by rw [List.length_map, ← hnl]; exact HS.out.own))
      rw [hso, List.length_map, ← hnl] at HSo
      have HFn := Lib.hid hfin
      clear hcl hso hfin hnl HS HDone HSub HFp HFin HEl RA HW
      go_wp2_with fail
      refine HSo.out.mono ?_
      rintro e w4 ⟨rfl, ho4, hb4⟩
      have HF := Lib.hid (HFn.out w4 hb4 ho4)
      clear ho4 hb4 HFn HSo
      go_wp2
      first | exact HF.out | (go_ret; exact HF.out)
end Go.Proofs.Ytchogpdfdpbpfaa

/- Layer 21: what hangs together, by the program. Condition: no more than a thousand edges, no more than a thousand numbers each. -/
namespace Go.Proofs.Ytchogpdfdpbpfaa
open Go.RowKit Go.Maps
attribute [local go_sem] more_cell more_frozen more_more more_setCell more_of_drew more_of_drewN lt_more le_more past_cell past_cell2 past_frozen past_frozen2 past_setCell past_setCell2 mid_cell mid_frozen mid_setCell
attribute [local go_sem ↓] Go.wp_at_zero Go.wp_at_succ

theorem infoB21 : (Try.prog.info? 4).map (fun i => (i.zero, i.size, i.bytes)) = some (some (.bool false), 1, 1) := by kernel_rfl
theorem neII : (3 : TypeId) ≠ 37 := by decide
/-- Lists of numbers, gathered in a row of one's own. -/
structure GatG (u : World) (base : Nat) (L : List (List Int)) (A : Option Addr) (c : Nat) (css : List (List Value)) (wr : World) : Prop where
  grew : Grew u wr
  own : wr.ownsRow base 37 1 (.slice A L.length c) L.length css.flatten
  rows : ListR (IlR (MRow u wr)) 1 L css
theorem GatG.on {u wr w' : World} {base : Nat} {L : List (List Int)} {A : Option Addr} {c : Nat} {css : List (List Value)} (h : GatG u base L A c css wr) (g : Grew wr w') : GatG u base L A c css w' :=
  ⟨h.grew.trans g, own_grewU h.own g, h.rows.map fun _ _ hx => hx.imp fun _ _ hm => hm.grew g⟩
theorem GatG.done {u wr : World} {base : Nat} {L : List (List Int)} {A : Option Addr} {c : Nat} {css : List (List Value)} (h : GatG u base L A c css wr) : GridI (PRow wr) A L := by
  obtain ⟨A', c', e, hr⟩ := own_row h.own
  injection e with e _ _
  subst e
  exact ⟨css, h.rows.map fun x cs hx => hx.imp fun B xs hm => hm.plain h.grew, hr⟩
theorem GatG.snoc {u wr w' : World} {base : Nat} {L : List (List Int)} {A A' : Option Addr} {c c' : Nat} {css : List (List Value)} {x : List Int} {v : Value} (h : GatG u base L A c css wr) (hu : u.heap.size ≤ base) (hx : IlR (MRow u wr) x [v])
    (ho : w'.ownsRow base 37 1 (.slice A' (L.length + 1) c') (L.length + 1) (css.flatten ++ [v])) (hb : wr.grownBy w' (Value.slice A L.length c).ownBlock) : GatG u base (L ++ [x]) A' c' (css ++ [[v]]) w' := by
  have H : ∀ B xs, MRow u wr 3 B xs → MRow u w' 3 B xs := fun B xs hm => hm.grown h.own neII hb
  refine ⟨h.grew.grown hb fun k hk => Nat.le_trans hu (own_base h.own k hk), ?_, (h.rows.map fun y ds hy => hy.imp H).snoc (hx.imp H) rfl⟩
  rw [List.length_append, List.length_singleton, List.flatten_append]
  simpa using ho
/-- What turns but a map and truths. -/
theorem GatG.keep {u wr w' : World} {base mb gt : Nat} {cs : Array Value} {l : List (Value × Value)} {L : List (List Int)} {A : Option Addr} {c : Nat} {css : List (List Value)} (h : GatG u base L A c css wr) (k : Keep2 wr w' mb gt) (hg : Grew u w') (hm : MapAt wr mb l) (ht : Blok wr gt 4 cs) : GatG u base L A c css w' := by
  have hne : ∀ (b : Nat) (cur : Array Value) (t : TypeId), wr.heap[b]? = some (.cells cur t (0, 0)) → t ≠ 4 → w'.heap[b]? = wr.heap[b]? := fun b cur t hh hnt => k.block b (heap_lt hh) (fun e => by
    obtain ⟨es, clock, hb, _⟩ := hm
    rw [← e, hh] at hb
    cases hb) (fun e => by
    unfold Blok at ht
    rw [← e, hh] at ht
    injection ht with ht
    injection ht with _ h2 _
    exact hnt h2)
  refine ⟨hg, ?_, h.rows.map fun x cs hx => hx.imp fun B xs hm => hm.imp id fun ht => ht.block fun b cur _ hh => hne b cur _ hh neBI⟩
  obtain ⟨hl, ho⟩ := h.own
  refine ⟨hl, ?_⟩
  rcases ho with ho | ⟨q, cap, cur, e, hb, hh, r⟩
  · exact Or.inl ho
  · exact Or.inr ⟨q, cap, cur, e, hb, by rw [hne q cur _ hh (by decide)]; exact hh, r⟩
/-- Lists of numbers that come back. -/
def GridF (w : World) (L : List (List Int)) (e : Ending) (w' : World) : Prop := ∃ A k, e = .returned (.slice A L.length k) ∧ Grew w w' ∧ GridI (PRow w') A L
section
variable {w : World} {ops : Array Oper} {rest : List Oper} {o : Oper} {a : Act} {Q : Exit → Act → World → Prop} {mb base : Nat} {l : List (Value × Value)} {F : Int → List Nat}
theorem wpList_mlook (hg : o.guard = none) (m x : Operand) (hop : o.op = Op.lookup 102 m x false) (hm : a.eval m = .map (some mb)) (h : WithM w mb base l F) (z : Int) (hz : wfI z) (hx : a.eval x = .int .i64 z)
    (hK : ∀ B c, Found21 w base l z B (F z).length c (F z) → wpList Try.prog ops Q rest (a.put o.dst (.slice B (F z).length c)) w) : wpList Try.prog ops Q (o :: rest) a w := by
  refine wpList_plain hg fun K' hK' => ?_
  obtain ⟨B, c, hrun, h1⟩ := h.look hz
  unfold Oper.wp
  simp [execOp, hop, hm, hx, hrun, Result.andThen]
  exact hK' _ _ (hK B c h1)
theorem wpList_mrun (hg : o.guard = none) (m x v : Operand) (t : TypeId) (hop : o.op = Op.mapUpdate t m x v) {vm vx vv : Value} (hm : a.eval m = vm) (hx : a.eval x = vx) (hv : a.eval v = vv) {w' : World} (hrun : (Instr.mapUpdate t vm vx vv).run Try.prog w = .ok () w')
    (hK : wpList Try.prog ops Q rest (a.put o.dst undef) w') : wpList Try.prog ops Q (o :: rest) a w := by
  refine wpList_plain hg fun K' hK' => ?_
  unfold Oper.wp
  simp [execOp, hop, hm, hx, hv, hrun, Result.andThen]
  exact hK' _ _ hK
end
/-- The map while it is filled: the edges up to one, and a part of that. -/
structure WithS (h : List (List Int)) (mb base : Nat) (u : World) (i q : Nat) (l : List (Value × Value)) (F : Int → List Nat) (wr : World) : Prop where
  grew : Grew u wr
  map : WithM wr mb base l F
  mem : ∀ x, wfI x → ∀ k, k ∈ F x ↔ (k < i ∧ x ∈ edgeAt h k) ∨ (k = i ∧ x ∈ (edgeAt h i).take q)
  few : ∀ x, (F x).length ≤ ((h.take i).flatten).length + q
def WiO (h : List (List Int)) (mb base : Nat) (u : World) (v : Value) (wr : World) : Prop := ∃ (i : Nat) (l : List (Value × Value)) (F : Int → List Nat), v = .int .i64 i ∧ i ≤ h.length ∧ WithS h mb base u i 0 l F wr
def WiI (h : List (List Int)) (mb base : Nat) (u : World) (i : Nat) (v : Value) (wr : World) : Prop := ∃ (q : Nat) (l : List (Value × Value)) (F : Int → List Nat), v = .int .i64 q ∧ q ≤ (edgeAt h i).length ∧ WithS h mb base u i q l F wr
theorem WithS.next {h : List (List Int)} {mb base i : Nat} {u wr : World} {l : List (Value × Value)} {F : Int → List Nat} (s : WithS h mb base u i (edgeAt h i).length l F wr) (hi : i < h.length) : WithS h mb base u (i + 1) 0 l F wr := by
  refine ⟨s.grew, s.map, fun x hx k => ?_, fun x => ?_⟩
  · rw [s.mem x hx k, List.take_length]
    constructor
    · rintro (⟨h1, h2⟩ | ⟨rfl, h2⟩)
      · exact Or.inl ⟨by omega, h2⟩
      · exact Or.inl ⟨by omega, h2⟩
    · rintro (⟨h1, h2⟩ | ⟨_, h2⟩)
      · rcases Nat.lt_or_ge k i with h3 | h3
        · exact Or.inl ⟨h3, h2⟩
        · obtain rfl : k = i := by omega
          exact Or.inr ⟨rfl, h2⟩
      · simp at h2
  · have := s.few x
    rw [flat_take hi, List.length_append, ← edgeAt_eq hi]
    omega
theorem WithS.more {h : List (List Int)} {mb base i q n c : Nat} {u wr w1 : World} {l : List (Value × Value)} {F : Int → List Nat} {x : Int} {B B' : Option Addr} {c' : Nat} {o : Obj} (s : WithS h mb base u i q l F wr) (hmb : mb < base) (hu : u.heap.size ≤ mb) (hq : q < (edgeAt h i).length) (hxq : (edgeAt h i)[q] = x) (hx : wfI x)
    (hf : Found21 wr base l x B n c (F x)) (hg : (wr.alloc o).grownBy w1 (Value.slice B n c).ownBlock) (ho : w1.ownsRow base 3 1 (.slice B' (n + 1) c') (n + 1) (nL (F x) ++ [.int .i64 i]))
    (hor : (Value.slice B' (n + 1) c').ownBlock = (Value.slice B n c).ownBlock ∨ (Value.slice B' (n + 1) c').ownBlock = some (wr.alloc o).heap.size) :
    ∃ w2 l', (Instr.mapUpdate 102 (.map (some mb)) (.int .i64 x) (.slice B' (n + 1) c')).run Try.prog w1 = .ok () w2 ∧ WithS h mb base u i (q + 1) l' (fun y => if y = x then F x ++ [i] else F y) w2 := by
  obtain ⟨w2, l', hrun, hg2, hm2⟩ := s.map.put hmb hx hf hg ho hor
  refine ⟨w2, l', hrun, ((s.grew.alloc o).grown hg fun k hk => by have := own_base hf.own k hk; omega).grown hg2 fun k hk => by injection hk with hk; omega, hm2, fun y hy k => ?_, fun y => ?_⟩
  · have ht : (edgeAt h i).take (q + 1) = (edgeAt h i).take q ++ [x] := by rw [List.take_succ_eq_append_getElem hq, hxq]
    rw [ht]
    by_cases e : y = x
    · subst e
      rw [if_pos rfl, List.mem_append, s.mem y hy k, List.mem_singleton, List.mem_append]
      constructor
      · rintro ((h1 | ⟨h1, h2⟩) | h1)
        · exact Or.inl h1
        · exact Or.inr ⟨h1, Or.inl h2⟩
        · exact Or.inr ⟨h1, Or.inr (by simp)⟩
      · rintro (h1 | ⟨h1, _⟩)
        · exact Or.inl (Or.inl h1)
        · exact Or.inr h1
    · rw [if_neg e, s.mem y hy k, List.mem_append, List.mem_singleton]
      simp [e]
  · have := s.few x
    have := s.few y
    split
    · rw [List.length_append, List.length_singleton]; omega
    · omega
/-- Parts, as far as they have come. -/
def PaAt (h : List (List Int)) (n mb gt base : Nat) (u : World) (v i : Value) (wr : World) : Prop :=
  ∃ (j : Nat) (A : Option Addr) (c : Nat) (css : List (List Value)) (l : List (Value × Value)) (F : Int → List Nat) (tk : Nat → Bool), i = .int .i64 j ∧ j ≤ n ∧ v = .slice A ((clsA j n (partR h)).length) c ∧
    GatG u base ((clsA j n (partR h)).map fun l => l.map fun (a : Nat) => (a : Int)) A c css wr ∧ WithR wr mb l F ∧ (∀ p ∈ l, ∀ B m c, p.2 = .slice (some B) m c → B.block < wr.heap.size) ∧ Blok wr gt 4 (bsV n tk) ∧ (∀ k, k < n → (tk k = true ↔ partR h k < j)) ∧ (∀ x, (F x).length ≤ 1000000) ∧
    ∀ x, wfI x → (F x = [] ∧ ∀ k, k < n → x ∈ edgeAt h k → partR h k < j) ∨ (∀ k, k ∈ F x ↔ k < n ∧ x ∈ edgeAt h k)
end Go.Proofs.Ytchogpdfdpbpfaa

/- Layer 21: what hangs together, by the program: the walk. Condition: no more than a thousand edges, no more than a thousand numbers each. -/
namespace Go.Proofs.Ytchogpdfdpbpfaa
open Go.RowKit Go.Maps
attribute [local go_sem] more_cell more_frozen more_more more_setCell more_of_drew more_of_drewN lt_more le_more past_cell past_cell2 past_frozen past_frozen2 past_setCell past_setCell2 mid_cell mid_frozen mid_setCell
attribute [local go_sem ↓] Go.wp_at_zero Go.wp_at_succ

theorem WithR.other {w w' : World} {mb base size n : Nat} {e : TypeId} {v : Value} {xs : List Value} {l : List (Value × Value)} {F : Int → List Nat} (h : WithR w mb l F) (ho : w.ownsRow base e size v n xs) (hne : (3 : TypeId) ≠ e) (g : w.grownBy w' v.ownBlock) : WithR w' mb l F := by
  refine h.turn (g.block mb h.map.lt fun he => ?_) fun b cur hh _ _ => g.block b (heap_lt hh) fun he => ?_
  · rcases ho.2 with ⟨rfl, _⟩ | ⟨q, cap, cur, rfl, _, hh, _⟩
    · cases he
    · simp [Value.ownBlock] at he
      subst he
      obtain ⟨es, clock, hm, _⟩ := h.map
      rw [hm] at hh
      cases hh
  · rcases ho.2 with ⟨rfl, _⟩ | ⟨q, cap, cur2, rfl, _, hh2, _⟩
    · cases he
    · simp [Value.ownBlock] at he
      subst he
      rw [hh] at hh2
      injection hh2 with hh2
      injection hh2 with _ h2 _
      exact hne h2
theorem Blok.other {w w' : World} {g base size n : Nat} {e t : TypeId} {cs : Array Value} {v : Value} {xs : List Value} (h : Blok w g t cs) (ho : w.ownsRow base e size v n xs) (hne : t ≠ e) (k : w.grownBy w' v.ownBlock) : Blok w' g t cs :=
  h.grown k fun he => by
    rcases ho.2 with ⟨rfl, _⟩ | ⟨q, cap, cur2, rfl, _, hh2, _⟩
    · cases he
    · simp [Value.ownBlock] at he
      subst he
      unfold Blok at h
      rw [h] at hh2
      injection hh2 with hh2
      injection hh2 with _ h2 _
      exact hne h2
theorem infoL21 : (Try.prog.info? 37).map (fun i => (i.zero, i.size, i.bytes)) = some (some (.slice none 0 0), 1, 24) := by kernel_rfl
theorem nL_iV (L : List Nat) : nL L = iV (L.map fun (a : Nat) => (a : Int)) := by simp [nL, iV]
set_option maxHeartbeats 1000000 in
set_option maxRecDepth 100000 in
theorem parts21_any (h : List (List Int)) (n : Nat) (hn : h.length = n) (hn1 : n ≤ 1000) (hw : wfG h) (hel : ∀ e ∈ h, e.length ≤ 1000) (hfl : h.flatten.length ≤ 1000000) (A : Option Addr) (ka : Nat) (w : World) (ra : GridI (PRow w) A h) :
    Calls Try.prog 56 #[.slice A n ka] w (GridF w ((clsM n (partR h)).map fun l => l.map fun (a : Nat) => (a : Int))) := by
  have RA := Lib.hid ra
  have HW := Lib.hid hw
  have HN := Lib.hid hn
  have HEl := Lib.hid hel
  have HFl : Hid (∀ j, ((h.take j).flatten).length ≤ 1000000) := Lib.hid fun j => Nat.le_trans (flat_le h j) hfl
  have HL : Hid (Least n (partR h)) := Lib.hid (by rw [← hn]; exact partR_least h)
  have hmm := @run_makeMap Try.prog
  obtain ⟨i0, hi, hz0, hz1, hz2⟩ := info_parts infoI
  have HI := Lib.hid hi
  have HI0 := Lib.hid hz0
  have HI1 := Lib.hid hz1
  have HI2 := Lib.hid hz2
  obtain ⟨j0, gi, gz0, gz1, gz2⟩ := info_parts infoB21
  have HJ := Lib.hid gi
  have HJ0 := Lib.hid gz0
  have HJ1 := Lib.hid gz1
  have HJ2 := Lib.hid gz2
  have HS0 : Hid (WithS h w.heap.size (w.heap.size + 1) w 0 0 [] (fun _ => []) (w.alloc (.map #[] 0))) := Lib.hid ⟨(Grew.refl w).alloc _, withM_new w _ _ rfl, fun x _ k => by simp, fun x => by simp⟩
  clear ra hw hel hfl hi hz0 hz1 hz2 gi gz0 gz1 gz2
  obtain ⟨mb, hmb⟩ : ∃ mb, w.heap.size = mb := ⟨_, rfl⟩
  have HMb := Lib.hid hmb
  go_enter Try.func56, Try.ntmps56
  go_wp2
  rw [hmb] at HS0
  clear hmb
  go_loopw [14] (fun v wr => WiO h mb (mb + 1) w v wr) (fun v _ => n - (intOf v).toNat)
  case atStart => exact ⟨0, [], _, rfl, Nat.zero_le _, HS0.out⟩
  case round =>
    obtain ⟨i, l, F, rfl, hin, hs⟩ := hrel
    rw [HN.out] at hin
    have HS := Lib.hid hs
    clear hs HS0
    by_cases h1 : i < n
    · have hih : i < h.length := by rw [HN.out]; exact h1
      obtain ⟨b2, o2, B, c2, rfl, hb2', hc2', hr2⟩ := gridI_at RA.out hih
      have hb2 := Nat.lt_of_lt_of_le hb2' HS.out.grew.size
      have hc2 := (HS.out.grew.cell (a := ⟨b2, o2 + i, none⟩) hb2').trans hc2'
      have hedge : edgeAt h i = h[i] := edgeAt_eq hih
      have HWe := Lib.hid (HW.out _ (List.getElem_mem hih))
      have hel := HEl.out _ (List.getElem_mem hih)
      have HRe := Lib.hid (fun W (hW : Grew w W) => hr2.grew hW)
      have HNext := Lib.hid (fun l F wr (s : WithS h mb (mb + 1) w i (edgeAt h i).length l F wr) => s.next hih)
      rw [← hedge] at HWe hel HRe hc2
      have hfi := HFl.out i
      clear hb2' hc2' hr2 hedge hih
      generalize he : edgeAt h i = e at HWe hel HRe hc2
      have HEp := Lib.hid he
      clear he
      go_wp2
      clear hb2 hc2
      go_loopw [21] (fun v wx => WiI h mb (mb + 1) w i v wx) (fun v _ => e.length - (intOf v).toNat)
      case atStart => exact ⟨0, l, F, rfl, Nat.zero_le _, HS.out⟩
      case round =>
        obtain ⟨q, l2, F2, rfl, hq, hs2⟩ := hrel
        rw [HEp.out] at hq
        have HS2 := Lib.hid hs2
        clear hs2 HS
        by_cases h2 : q < e.length
        · obtain ⟨b3, o3, rfl, hb3, hc3⟩ := rowI_at (HRe.out _ HS2.out.grew) h2
          have HWx := Lib.hid (HWe.out _ (List.getElem_mem h2))
          have HXq : Hid (∃ h' : q < (edgeAt h i).length, (edgeAt h i)[q] = e[q]) := Lib.hid (by
            have := HEp.out
            subst this
            exact ⟨h2, rfl⟩)
          generalize e[q] = x at *
          have hfx := HS2.out.few x
          have hmbw : mb < wr.heap.size := HS2.out.map.map.lt
          have hfx2 : (F2 x).length ≤ 1001000 := by omega
          have HMore := Lib.hid (fun n c B B' c' o w1 hf hg ho hor => by
            obtain ⟨h', hx'⟩ := HXq.out
            exact HS2.out.more (n := n) (c := c) (B := B) (B' := B') (c' := c') (o := o) (w1 := w1) (Nat.lt_succ_self mb) (by rw [HMb.out]; exact Nat.le_refl _) h' hx' HWx.out hf hg ho hor)
          clear hfx
          go_wp2_with (first | (at_lookup; refine wpList_mlook rfl _ _ rfl rfl HS2.out.map x HWx.out rfl ?_; intro B4 c4 hf4; have HF4 := Lib.hid hf4; clear hf4) | (at_builtin; refine wpList_append_row _ rfl _ _ 37 rfl (mb + 1) 3 i0 (.int .i64 0) 1 8 Try.underlying37 HI.out HI0.out HI1.out HI2.out rfl (by decide) _ ((F2 x).length) (nL (F2 x)) rfl (own_alloc HF4.out.own _) _ 1 1 [.int .i64 i] rfl rfl (row_one _ _ _ _ rfl) (by simp [Value.oneCell']) (by unfold maxLen; omega) (by omega) (by rw [World.size_alloc]; omega) ?_; intro A9 c9 w9 ho9 _ hg9 hor9; obtain ⟨w10, l10, hrun10, hs10⟩ := HMore.out _ _ _ _ _ _ _ HF4.out hg9 ho9 hor9; have HRun := Lib.hid hrun10; have HS10 := Lib.hid hs10; clear hrun10 hs10 ho9 hg9 hor9) | (at_mapUpdate; refine wpList_mrun rfl _ _ _ _ rfl rfl rfl rfl HRun.out ?_))
          exact ⟨⟨q + 1, l10, _, by go_num, by rw [HEp.out]; omega, HS10.out⟩, by simp only [intOf]; omega⟩
        · obtain rfl : q = e.length := by omega
          have HNx := Lib.hid (HNext.out l2 F2 wr (by rw [HEp.out]; exact HS2.out))
          go_wp2
          exact ⟨⟨i + 1, l2, F2, by go_num, by rw [HN.out]; omega, HNx.out⟩, by simp only [intOf]; omega⟩
    · obtain rfl : i = n := by omega
      have hmbw : mb < wr.heap.size := HS.out.map.map.lt
      have HM0 := Lib.hid HMb.out
      have HP0 : Hid (PaAt h i mb wr.heap.size mb w (.slice none 0 0) (.int .i64 (0 : Nat)) (wr.alloc (.cells (madeCells #[.bool false] i) 4))) := Lib.hid (by
        refine ⟨0, none, 0, [], l, F, fun _ => false, rfl, Nat.zero_le _, rfl, ⟨HS.out.grew.alloc _, own_none _ _ _ _, .nil⟩, HS.out.map.read.grew ((Grew.refl wr).alloc _), fun p hp B m c e => ?_, ?_, fun k hk => by simp, fun x => ?_, fun x hx => Or.inr fun k => ?_⟩
        · obtain ⟨x, _, _, B', c', e', ho⟩ := HS.out.map.rows p hp
          have := own_lt ho B.block (by rw [e]; rfl)
          rw [World.size_alloc]
          omega
        · rw [← bsV_made]
          exact Blok.new _ _ _ _ rfl
        · have h1 := HS.out.few x
          have h2 := HFl.out i
          omega
        · have := HS.out.mem x hx k
          simpa using this)
      clear HS
      go_wp2_with (at_make; refine wpList_make_row _ rfl _ _ 103 rfl 4 j0 (.bool false) Try.underlying103 HJ.out HJ0.out HJ1.out rfl _ _ i rfl rfl (by rw [HJ2.out]; omega) (by omega) ?_)
      generalize wr.alloc (.cells (madeCells #[.bool false] i) 4) = ws at *
      generalize wr.heap.size = gt at *
      go_loopw [8, 40] (fun v x wx => PaAt h i mb gt mb w v x wx) (fun _ x _ => i - (intOf x).toNat)
      case atStart => exact HP0.out
      case round =>
        obtain ⟨j, A1, c1, css, l1, F1, tk, rfl, hj, rfl, hG, hR, hlow, hT, hI1, hFs, hI3⟩ := hrel
        have HG := Lib.hid hG
        have HR := Lib.hid hR
        have HLow := Lib.hid hlow
        have HT := Lib.hid hT
        have HI1' := Lib.hid hI1
        have HFs := Lib.hid hFs
        have HI3 := Lib.hid hI3
        clear hG hR hlow hT hI1 hFs hI3 HP0
        by_cases h2 : j < i
        · have t0 := HT.out.cell j
          rw [bsV_at i tk j h2] at t0
          have t1 := HT.out.thaw j
          have hji := HI1'.out j h2
          have hle := HL.out.le j h2
          rcases hb : tk j with _ | _
          · rw [hb] at t0 hji
            have hff : partR h j = j := by
              have h3 : ¬ partR h j < j := fun h4 => by have := hji.2 h4; cases this
              omega
            clear hji hle
            have HFf := Lib.hid hff
            have hm0 := HM0.out
            have HC := Lib.hid (flood_any h i HN.out hn1 HW.out HEl.out A ka w wr HG.out.grew RA.out mb gt (by omega) (by omega) (by omega) l1 F1 HR.out HLow.out tk HT.out j h2 hff HI1'.out HI3.out HFs.out i)
            have hcl : (clsA j i (partR h)).length ≤ 1000 := by
              rw [clsA_len]
              exact Nat.le_trans (rootsN_le _ _) (by omega)
            have hgtw := HT.out.lt
            clear hff hm0
            go_wp2_with (first | (go_at_call 68; refine HC.out.mono ?_; intro e w2 hfl; obtain ⟨B, c, l2, F2, tk2, rfl, hg2, hk2, hr2, hsub2, hT2, ho2, hI1, hFs, hI3⟩ := hfl.ends; have hsz2 := hk2.size; have HG2 := Lib.hid (HG.out.keep hk2 hg2 HR.out.map HT.out); have HR2 := Lib.hid hr2; have HSub2 := Lib.hid hsub2; have HT2 := Lib.hid hT2; have HO2 := Lib.hid ho2; have HI12 := Lib.hid hI1; have HFs2 := Lib.hid hFs; have HI32 := Lib.hid hI3; have HOwn : Hid (∀ o, (w2.alloc o).ownsRow mb 37 1 (.slice A1 (clsA j i (partR h)).length c1) (clsA j i (partR h)).length css.flatten) := Lib.hid (fun o => by have := own_alloc HG2.out.own o; rw [List.length_map] at this; exact this); clear hfl hg2 hk2 hr2 hsub2 hT2 ho2 hI1 hFs hI3) | (at_builtin; refine wpList_appB rfl _ _ 59 37 1 rfl mb (.slice none 0 0) 24 Try.underlying59 infoL21 rfl (by decide) (by decide) _ (clsA j i (partR h)).length css.flatten rfl (HOwn.out _) _ 1 1 [.slice B (clsL i (partR h) j).length c] rfl rfl (row_one _ _ _ _ rfl) (by simp [Value.oneCell']) (by omega) (by rw [World.size_alloc]; omega) ?_; intro A9 c9 w9 ho9 hg9; have HO9 := Lib.hid ho9; have HG9 := Lib.hid hg9; clear ho9 hg9))
            have hu : w.heap.size ≤ mb := by rw [HM0.out]; exact Nat.le_refl _
            have HA2 := Lib.hid ((Grew.refl w2).alloc (.cells #[.slice B (clsL i (partR h) j).length c] 37))
            have hx : IlR (MRow w (w2.alloc (.cells #[.slice B (clsL i (partR h) j).length c] 37))) ((clsL i (partR h) j).map fun (a : Nat) => (a : Int)) [.slice B (clsL i (partR h) j).length c] :=
              ⟨B, c, by rw [List.length_map], by rw [← nL_iV]; exact MRow.grew (Or.inr ((TRow.own HO2.out).low (by have := HM0.out; omega))) HA2.out⟩
            have HS9 := (HG2.out.on HA2.out).snoc (w' := w9) (A' := A9) (c' := c9) hu hx (by rw [List.length_map]; exact HO9.out) (by rw [List.length_map]; exact HG9.out)
            have hs9 := HG9.out.size
            rw [World.size_alloc] at hs9
            refine ⟨⟨j + 1, A9, c9, css ++ [[.slice B (clsL i (partR h) j).length c]], l2, F2, tk2, by go_num, h2, ?_, ?_, (HR2.out.grew HA2.out).other (HOwn.out _) (by decide) HG9.out, fun p hp B m c e => ?_, (HT2.out.alloc _).other (HOwn.out _) (by decide) HG9.out, HI12.out, HFs2.out, HI32.out⟩, by simp only [intOf]; omega⟩
            · rw [clsA_in HFf.out, List.length_append]
              rfl
            · rw [clsA_in HFf.out, List.map_append]
              exact HS9
            · have := HLow.out p (HSub2.out p hp) B m c e
              omega
          · rw [hb] at t0 hji
            simp only [true_iff] at hji
            have hne : partR h j ≠ j := by omega
            have HLt : Hid (∀ k, k < i → partR h k < j + 1 → partR h k < j) := Lib.hid (fun k hk h1 => by
              have := HL.out.idem k hk
              rcases Nat.lt_or_ge (partR h k) j with h2 | h2
              · exact h2
              · have e : partR h k = j := by omega
                rw [e] at this; omega)
            go_wp2
            exact ⟨⟨j + 1, A1, c1, css, l1, F1, tk, by go_num, h2, by rw [clsA_out hne], by rw [clsA_out hne]; exact HG.out, HR.out, HLow.out, HT.out, fun k hk => (HI1'.out k hk).trans ⟨fun h => Nat.lt_succ_of_lt h, HLt.out k hk⟩, HFs.out, fun x hx => (HI3.out x hx).imp (fun h => ⟨h.1, fun k hk hx => Nat.lt_succ_of_lt (h.2 k hk hx)⟩) id⟩, by simp only [intOf]; omega⟩
        · obtain rfl : j = i := by omega
          go_wp2
          refine bodyPost_ret (v := .slice A1 (clsA j j (partR h)).length c1) (by simp [results, Try.results56, go_sem]) rfl ⟨A1, c1, ?_, HG.out.grew, HG.out.done⟩
          rw [List.length_map]
          rfl
end Go.Proofs.Ytchogpdfdpbpfaa

/- Layer 21: is one within the other, degrees, rising, sets, by the program. Condition: no more than a million numbers. -/
namespace Go.Proofs.Ytchogpdfdpbpfaa
open Go.RowKit
attribute [local go_sem] more_cell more_frozen more_more more_setCell more_of_drew more_of_drewN lt_more le_more past_cell past_cell2 past_frozen past_frozen2 past_setCell past_setCell2 mid_cell mid_frozen mid_setCell
attribute [local go_sem ↓] Go.wp_at_zero Go.wp_at_succ

def IxAt (w : World) (l : List Int) (p : Int → Bool) (i : Value) (wr : World) : Prop := ∃ j : Nat, j ≤ l.length ∧ i = .int .i64 j ∧ Grew w wr ∧ ∀ x ∈ l.take j, p x = false
end Go.Proofs.Ytchogpdfdpbpfaa

/- Layer 21: lists of numbers, by the document: has, put, set, shared, within. Condition: no more than a million numbers. -/
namespace Go.Proofs.Ytchogpdfdpbpfaa
open Go.RowKit
attribute [local go_sem] more_cell more_frozen more_more more_setCell more_of_drew more_of_drewN lt_more le_more past_cell past_cell2 past_frozen past_frozen2 past_setCell past_setCell2 mid_cell mid_frozen mid_setCell
attribute [local go_sem ↓] Go.wp_at_zero Go.wp_at_succ

def HasAt (w : World) (l : List Int) (v : Int) (i : Value) (wr : World) : Prop := ∃ j : Nat, j ≤ l.length ∧ i = .int .i64 j ∧ Grew w wr ∧ v ∉ l.take j
theorem not_take {l : List Int} {v : Int} {j : Nat} (h : j < l.length) (hn : v ∉ l.take j) (hx : l[j] ≠ v) : v ∉ l.take (j + 1) := by
  rw [List.take_succ_eq_append_getElem h, List.mem_append]
  rintro (h1 | h1)
  · exact hn h1
  · exact hx (List.mem_singleton.1 h1).symm
theorem rhas21_any (l : List Int) (v : Int) (A : Option Addr) (k : Nat) (hl : l.length ≤ 1000000) (w : World) (ra : Row w A (iV l)) :
    Gives Try.prog 69 #[.slice A l.length k, .int .i64 v] w (.bool (decide (v ∈ l))) := by
  have RA := Lib.hid ra
  obtain ⟨t, ht⟩ : ∃ t, decide (v ∈ l) = t := ⟨_, rfl⟩
  rw [ht]
  have HT := Lib.hid ht
  clear ra ht
  unfold Gives
  go_enter Try.func69, Try.ntmps69
  go_wp2
  go_loopw [5] (fun i wr => HasAt w l v i wr) (fun i _ => l.length - (intOf i).toNat)
  case atStart => exact ⟨0, Nat.zero_le _, rfl, Grew.refl w, by simp⟩
  case round =>
    obtain ⟨j, hj, rfl, hg, hn⟩ := hrel
    have HG := Lib.hid hg
    have HN := Lib.hid hn
    clear hg hn
    by_cases h : j < l.length
    · obtain ⟨b, o, rfl, hb, hc⟩ := rowI_at (RA.out.grew HG.out) h
      have HNx := Lib.hid (not_take h HN.out)
      have HY : Hid (l[j] = v → t = true) := Lib.hid fun e => by rw [← HT.out, ← e]; exact decide_eq_true (List.getElem_mem h)
      clear HN
      generalize l[j] = x at *
      by_cases e : x = v
      · obtain rfl := HY.out e
        have e1 : (x == v) = true := by simpa using e
        clear HNx HY e
        go_wp2
        go_ret
        exact ⟨rfl, HG.out⟩
      · have HN2 := Lib.hid (HNx.out e)
        have e1 : (x == v) = false := by simpa using e
        clear HNx HY e
        go_wp2
        exact ⟨⟨j + 1, by omega, by go_num, HG.out, HN2.out⟩, by simp only [intOf]; omega⟩
    · obtain rfl : j = l.length := by omega
      rw [List.take_length] at HN
      obtain rfl : t = false := by rw [← HT.out]; exact decide_eq_false HN.out
      clear HN HT
      go_wp2
      go_ret
      exact ⟨rfl, HG.out⟩
def WiAt (w : World) (a b : List Int) (i : Value) (wr : World) : Prop := ∃ j : Nat, j ≤ a.length ∧ i = .int .i64 j ∧ Grew w wr ∧ withinI (a.take j) b = true
def PutAt (w : World) (s : List Int) (v : Int) (i : Value) (wr : World) : Prop := ∃ j : Nat, j ≤ s.length ∧ i = .int .i64 j ∧ Grew w wr ∧ ∀ y ∈ s.take j, y < v
/-- Numbers that come back: the very row, or one of one's own. -/
def PutT (base : Nat) (w : World) (l : List Int) (e : Ending) (w' : World) : Prop := ∃ A k, e = .returned (.slice A l.length k) ∧ l.length ≤ k ∧ Grew w w' ∧ TRow base w' 3 A (iV l)
def PutFg (w : World) (l : List Int) (e : Ending) (w' : World) : Prop := PutT w.heap.size w l e w'
set_option maxHeartbeats 1000000 in
set_option maxRecDepth 100000 in
theorem rput21_any (l : List Int) (v : Int) (A : Option Addr) (k : Nat) (hl : l.length ≤ 1000000) (hk : (setI l).length ≤ k) (w : World) (base : Nat) (hB : base ≤ w.heap.size) (rt : TRow base w 3 A (iV (setI l))) :
    Calls Try.prog 60 #[.slice A (setI l).length k, .int .i64 v] w (PutT base w (setI (l ++ [v]))) := by
  have ra := rt.plain
  have RT := Lib.hid rt
  have hsl := setI_len l
  have HH := Lib.hid (rhas21_any (setI l) v A k (by omega) w ra)
  have RA := Lib.hid ra
  by_cases hv : v ∈ l
  · rw [decide_eq_true ((setI_mem l v).2 hv)] at HH
    have HE := Lib.hid (setI_snoc_in hv)
    clear ra hsl
    have HK : Hid (∀ W, Grew w W → PutT base w (setI (l ++ [v])) (.returned (.slice A (setI l).length k)) W) := Lib.hid fun W hW => by
      rw [HE.out]
      exact ⟨A, k, rfl, hk, hW, RT.out.grew hW⟩
    clear HE RA RT rt hB
    generalize PutT base w (setI (l ++ [v])) = F at *
    generalize (setI l).length = n at *
    go_enter Try.func60, Try.ntmps60
    go_wp2_with (go_at_call 69; (with_reducible refine HH.out.grows.mono ?_); rintro e w6 ⟨rfl, hg6⟩; have HF := Lib.hid (HK.out w6 hg6); clear hg6)
    exact HF.out
  · have hnm : v ∉ setI l := fun h => hv ((setI_mem l v).1 h)
    rw [decide_eq_false hnm] at HH
    have HPut := Lib.hid (fun q => setI_put hv q)
    have HRis := Lib.hid (setI_rising l)
    have HKc : Hid (∀ q, q ≤ (setI l).length → (setI l).take q ++ [v] ++ (setI l).drop q = setI (l ++ [v]) → ∀ W A c, (setI l).length + 1 ≤ c → Grew w W → TRow w.heap.size W 3 A (iV (setI (l ++ [v]))) → PutT base w (setI (l ++ [v])) (.returned (.slice A ((setI l).length + 1) c)) W) := Lib.hid fun q hq e W A c hc hW hR => by
      have hlen : (setI (l ++ [v])).length = (setI l).length + 1 := by
        rw [← e]
        simp
        omega
      exact ⟨A, c, by rw [hlen], by omega, hW, hR.low hB⟩
    clear ra hnm hv RT rt hB
    have hsl2 : (setI l).length ≤ 1000000 := by omega
    clear hsl hl
    generalize PutT base w (setI (l ++ [v])) = F at *
    generalize setI (l ++ [v]) = s1 at *
    generalize setI l = s at *
    obtain ⟨n, hn⟩ : ∃ n, s.length = n := ⟨_, rfl⟩
    rw [hn] at HH HKc hk hsl2 ⊢
    have HN := Lib.hid hn
    clear hn
    go_enter Try.func60, Try.ntmps60
    go_wp2_with (go_at_call 69; (with_reducible refine HH.out.grows.mono ?_); rintro e w6 ⟨rfl, hg6⟩; have HG6 := Lib.hid hg6; clear hg6)
    go_loopw [5] (fun i wr => PutAt w s v i wr) (fun i _ => n - (intOf i).toNat)
    case atStart => exact ⟨0, Nat.zero_le _, rfl, HG6.out, by simp⟩
    case round =>
      obtain ⟨q, hq, rfl, hg, h1⟩ := hrel
      rw [HN.out] at hq
      have HG := Lib.hid hg
      have HT := Lib.hid h1
      clear hg h1 HG6 HH
      by_cases hgo : ∃ h : q < s.length, s[q] < v
      · obtain ⟨hqs, hlt⟩ := hgo
        obtain ⟨b, o, rfl, hb, hc⟩ := rowI_at (RA.out.grew HG.out) hqs
        have HE : Hid (∀ y ∈ s.take (q + 1), y < v) := Lib.hid fun y hy => by
          rw [List.take_succ_eq_append_getElem hqs] at hy
          rcases List.mem_append.1 hy with hy | hy
          · exact HT.out y hy
          · rw [List.mem_singleton.1 hy]; exact hlt
        have hqn : (q : Int) < (n : Int) := by have := HN.out; omega
        generalize s[q] = y at *
        go_wp2
        exact ⟨⟨q + 1, by have := HN.out; omega, by go_num, HG.out, HE.out⟩, by simp only [intOf]; omega⟩
      · have h2 : ∀ y ∈ s.drop q, v ≤ y := fun y hy => by
          obtain ⟨i, hi, rfl⟩ := List.getElem_of_mem hy
          rw [List.getElem_drop]
          rw [List.length_drop] at hi
          have hqs : q < s.length := by omega
          have h3 : ¬ s[q] < v := fun h => hgo ⟨hqs, h⟩
          have h4 := sorted_le HRis.out.le (i := q) (j := q + i) (by omega) (by omega)
          omega
        have HS1 := Lib.hid (HPut.out q HT.out h2)
        have HK := Lib.hid (HKc.out q hq HS1.out)
        have HQ : Hid (q ≤ n ∧ n ≤ 1000000) := Lib.hid ⟨hq, hsl2⟩
        have HEnd : Hid (q = n ∨ ∃ h : q < s.length, ¬ s[q] < v) := Lib.hid (by
          by_cases h : q < s.length
          · exact Or.inr ⟨h, fun h' => hgo ⟨h, h'⟩⟩
          · exact Or.inl (by have := HN.out; omega))
        clear hgo h2 HT HPut HKc HRis
        rcases HEnd.out with he | ⟨hqs, hge⟩
        · clear HEnd
          rcases Nat.eq_zero_or_pos q with e | e
          · subst e
            subst he
            have hst : (iV (s.take 0)).length = 0 := by simp [iV]
            have hsd : (iV (s.drop 0)).length = 0 := by simp [iV, HN.out]
            have HRT : Hid (∀ W, Grew wr W → Row W A (iV (s.take 0))) := Lib.hid fun W hW => row_takeI (RA.out.grew (HG.out.trans hW)) _
            have HRD : Hid (∀ W, Grew wr W → Row W A (iV (s.drop 0))) := Lib.hid fun W hW => by rw [List.drop_zero]; exact RA.out.grew (HG.out.trans hW)
            clear HN RA
            generalize s.take 0 = st at *
            generalize s.drop 0 = sd at *
            go_wp2_with (at_builtin; first | (refine wpList_app rfl (.tmp 25) (.tmp 28) 37 3 rfl w (.int .i64 0) 8 Try.underlying37 infoI rfl (by decide) _ 0 [] rfl (own_empty _ _ _ _ _ rfl HG.out.size) _ _ _ (iV st) rfl hst (HRT.out _ ((Grew.refl wr).alloc _)) (iV_one _) (by have := HQ.out; omega) (HG.out.alloc _) ?_; intro A1 c1 w1 ho1 hr1 hg1 hgb1 hor1; rw [Nat.zero_add, List.nil_append] at ho1; rw [Nat.zero_add] at hor1; have HO1 := Lib.hid ho1; have HG1 := Lib.hid hg1; have HGQ1 : Hid (Grew wr w1) := Lib.hid (((Grew.refl wr).alloc _).grown hgb1 (by intro k hk; cases hk; exact Nat.le_refl _)); have HOW1 : Hid (∀ k, (Value.slice A1 (0) c1).ownBlock = some k → wr.heap.size ≤ k) := Lib.hid (by rintro k hk; rcases hor1 with h | h <;> (rw [h] at hk; cases hk; simp)); clear hor1 ho1 hr1 hg1 hgb1) | (refine wpList_app rfl (.tmp 30) (.tmp 32) 37 3 rfl w (.int .i64 0) 8 Try.underlying37 infoI rfl (by decide) _ _ _ rfl (own_alloc HO1.out _) _ 1 1 [.int .i64 v] rfl rfl (row_one _ _ _ _ rfl) (by simp [Value.oneCell']) (by have := HQ.out; omega) (HG1.out.alloc _) ?_; intro A2 c2 w2 ho2 hr2 hg2 hgb2 _; have HO2 := Lib.hid ho2; have HG2 := Lib.hid hg2; have HGQ2 : Hid (Grew wr w2) := Lib.hid ((HGQ1.out.alloc _).grown hgb2 (HOW1.out)); clear ho2 hr2 hg2 hgb2) | (refine wpList_app rfl (.tmp 34) (.tmp 37) 37 3 rfl w (.int .i64 0) 8 Try.underlying37 infoI rfl (by decide) _ _ _ rfl HO2.out _ _ _ (iV sd) rfl hsd (by first | exact HRD.out _ HGQ2.out | exact HRD2.out _ HGQ2.out | exact HRD1.out (by first | assumption | omega) _ HGQ2.out) (iV_one _) (by have := HQ.out; omega) HG2.out ?_; intro A3 c3 w3 ho3 hr3 hg3 _ _; rw [show 1 + 0 = 0 + 1 by have := HQ.out; omega] at ho3 ⊢; have HF := Lib.hid (HK.out w3 A3 c3 (own_cap ho3) hg3 (by rw [← HS1.out]; simpa [iV] using TRow.own ho3)); clear ho3 hr3 hg3))
            all_goals first | exact HF.out | (go_ret; exact HF.out)
          · obtain ⟨q, rfl⟩ : ∃ p, q = p + 1 := ⟨q - 1, by omega⟩
            obtain ⟨b, o, rfl⟩ := irow_some RA.out (j := q) (by have := HN.out; omega)
            subst he
            have hst : (iV (s.take (q + 1))).length = (q + 1) := by have := HN.out; simp [iV]; omega
            have hsd : (iV (s.drop (q + 1))).length = 0 := by simp [iV, HN.out]
            have HRT : Hid (∀ W, Grew wr W → Row W (some ⟨b, o, none⟩ : Option Addr) (iV (s.take (q + 1)))) := Lib.hid fun W hW => row_takeI (RA.out.grew (HG.out.trans hW)) _
            have HRD : Hid (∀ W, Grew wr W → Row W (if k = q + 1 then some ⟨b, o, none⟩ else some ⟨b, o + (q + 1), none⟩) (iV (s.drop (q + 1)))) := Lib.hid fun W hW => by
              split
              · exact Or.inl (by rw [List.drop_of_length_le (by have := HN.out; omega)]; rfl)
              · exact row_dropI (RA.out.grew (HG.out.trans hW)) _
            have HRD2 : Hid (∀ W, Grew wr W → Row W (some ⟨b, o + (q + 1), none⟩) (iV (s.drop (q + 1)))) := Lib.hid fun W hW => row_dropI (RA.out.grew (HG.out.trans hW)) _
            have HRD1 : Hid (k = q + 1 → ∀ W, Grew wr W → Row W (some ⟨b, o, none⟩) (iV (s.drop (q + 1)))) := Lib.hid fun e W _ => Or.inl (by rw [List.drop_of_length_le (by have := HN.out; omega)]; rfl)
            clear HN RA
            generalize s.take (q + 1) = st at *
            generalize s.drop (q + 1) = sd at *
            go_wp2_with (at_builtin; first | (refine wpList_app rfl (.tmp 25) (.tmp 28) 37 3 rfl w (.int .i64 0) 8 Try.underlying37 infoI rfl (by decide) _ 0 [] rfl (own_empty _ _ _ _ _ rfl HG.out.size) _ _ _ (iV st) rfl hst (HRT.out _ ((Grew.refl wr).alloc _)) (iV_one _) (by have := HQ.out; omega) (HG.out.alloc _) ?_; intro A1 c1 w1 ho1 hr1 hg1 hgb1 hor1; rw [Nat.zero_add, List.nil_append] at ho1; rw [Nat.zero_add] at hor1; have HO1 := Lib.hid ho1; have HG1 := Lib.hid hg1; have HGQ1 : Hid (Grew wr w1) := Lib.hid (((Grew.refl wr).alloc _).grown hgb1 (by intro k hk; cases hk; exact Nat.le_refl _)); have HOW1 : Hid (∀ k, (Value.slice A1 (q + 1) c1).ownBlock = some k → wr.heap.size ≤ k) := Lib.hid (by rintro k hk; rcases hor1 with h | h <;> (rw [h] at hk; cases hk; simp)); clear hor1 ho1 hr1 hg1 hgb1) | (refine wpList_app rfl (.tmp 30) (.tmp 32) 37 3 rfl w (.int .i64 0) 8 Try.underlying37 infoI rfl (by decide) _ _ _ rfl (own_alloc HO1.out _) _ 1 1 [.int .i64 v] rfl rfl (row_one _ _ _ _ rfl) (by simp [Value.oneCell']) (by have := HQ.out; omega) (HG1.out.alloc _) ?_; intro A2 c2 w2 ho2 hr2 hg2 hgb2 _; have HO2 := Lib.hid ho2; have HG2 := Lib.hid hg2; have HGQ2 : Hid (Grew wr w2) := Lib.hid ((HGQ1.out.alloc _).grown hgb2 (HOW1.out)); clear ho2 hr2 hg2 hgb2) | (refine wpList_app rfl (.tmp 34) (.tmp 37) 37 3 rfl w (.int .i64 0) 8 Try.underlying37 infoI rfl (by decide) _ _ _ rfl HO2.out _ _ _ (iV sd) rfl hsd (by first | exact HRD.out _ HGQ2.out | exact HRD2.out _ HGQ2.out | exact HRD1.out (by first | assumption | omega) _ HGQ2.out) (iV_one _) (by have := HQ.out; omega) HG2.out ?_; intro A3 c3 w3 ho3 hr3 hg3 _ _; rw [show q + 1 + 1 + 0 = q + 1 + 1 by have := HQ.out; omega] at ho3 ⊢; have HF := Lib.hid (HK.out w3 A3 c3 (own_cap ho3) hg3 (by rw [← HS1.out]; simpa [iV] using TRow.own ho3)); clear ho3 hr3 hg3))
            all_goals first | exact HF.out | (go_ret; exact HF.out)
        · obtain ⟨b, o, rfl, hb, hc⟩ := rowI_at (RA.out.grew HG.out) hqs
          have hqn : (q : Int) < (n : Int) := by have := HN.out; omega
          have hge' : v ≤ s[q] := by omega
          clear HEnd hge
          generalize s[q] = y at *
          clear hqs
          rcases Nat.eq_zero_or_pos q with e | e
          · subst e
            rw [Nat.add_zero] at hc
            have hst : (iV (s.take 0)).length = 0 := by simp [iV]
            have hsd : (iV (s.drop 0)).length = n := by simp [iV, HN.out]
            have HRT : Hid (∀ W, Grew wr W → Row W (some ⟨b, o, none⟩) (iV (s.take 0))) := Lib.hid fun W hW => row_takeI (RA.out.grew (HG.out.trans hW)) _
            have HRD : Hid (∀ W, Grew wr W → Row W (some ⟨b, o, none⟩) (iV (s.drop 0))) := Lib.hid fun W hW => by rw [List.drop_zero]; exact RA.out.grew (HG.out.trans hW)
            clear HN RA
            generalize s.take 0 = st at *
            generalize s.drop 0 = sd at *
            go_wp2_with (at_builtin; first | (refine wpList_app rfl (.tmp 25) (.tmp 28) 37 3 rfl w (.int .i64 0) 8 Try.underlying37 infoI rfl (by decide) _ 0 [] rfl (own_empty _ _ _ _ _ rfl HG.out.size) _ _ _ (iV st) rfl hst (HRT.out _ ((Grew.refl wr).alloc _)) (iV_one _) (by have := HQ.out; omega) (HG.out.alloc _) ?_; intro A1 c1 w1 ho1 hr1 hg1 hgb1 hor1; rw [Nat.zero_add, List.nil_append] at ho1; rw [Nat.zero_add] at hor1; have HO1 := Lib.hid ho1; have HG1 := Lib.hid hg1; have HGQ1 : Hid (Grew wr w1) := Lib.hid (((Grew.refl wr).alloc _).grown hgb1 (by intro k hk; cases hk; exact Nat.le_refl _)); have HOW1 : Hid (∀ k, (Value.slice A1 (0) c1).ownBlock = some k → wr.heap.size ≤ k) := Lib.hid (by rintro k hk; rcases hor1 with h | h <;> (rw [h] at hk; cases hk; simp)); clear hor1 ho1 hr1 hg1 hgb1) | (refine wpList_app rfl (.tmp 30) (.tmp 32) 37 3 rfl w (.int .i64 0) 8 Try.underlying37 infoI rfl (by decide) _ _ _ rfl (own_alloc HO1.out _) _ 1 1 [.int .i64 v] rfl rfl (row_one _ _ _ _ rfl) (by simp [Value.oneCell']) (by have := HQ.out; omega) (HG1.out.alloc _) ?_; intro A2 c2 w2 ho2 hr2 hg2 hgb2 _; have HO2 := Lib.hid ho2; have HG2 := Lib.hid hg2; have HGQ2 : Hid (Grew wr w2) := Lib.hid ((HGQ1.out.alloc _).grown hgb2 (HOW1.out)); clear ho2 hr2 hg2 hgb2) | (refine wpList_app rfl (.tmp 34) (.tmp 37) 37 3 rfl w (.int .i64 0) 8 Try.underlying37 infoI rfl (by decide) _ _ _ rfl HO2.out _ _ _ (iV sd) rfl hsd (by first | exact HRD.out _ HGQ2.out | exact HRD2.out _ HGQ2.out | exact HRD1.out (by first | assumption | omega) _ HGQ2.out) (iV_one _) (by have := HQ.out; omega) HG2.out ?_; intro A3 c3 w3 ho3 hr3 hg3 _ _; rw [show 1 + n = n + 1 by have := HQ.out; omega] at ho3 ⊢; have HF := Lib.hid (HK.out w3 A3 c3 (own_cap ho3) hg3 (by rw [← HS1.out]; simpa [iV] using TRow.own ho3)); clear ho3 hr3 hg3))
            all_goals first | exact HF.out | (go_ret; exact HF.out)
          · obtain ⟨q, rfl⟩ : ∃ p, q = p + 1 := ⟨q - 1, by omega⟩
            have hst : (iV (s.take (q + 1))).length = (q + 1) := by have := HN.out; simp [iV]; omega
            have hsd : (iV (s.drop (q + 1))).length = n - (q + 1) := by simp [iV, HN.out]
            have HRT : Hid (∀ W, Grew wr W → Row W (some ⟨b, o, none⟩ : Option Addr) (iV (s.take (q + 1)))) := Lib.hid fun W hW => row_takeI (RA.out.grew (HG.out.trans hW)) _
            have HRD : Hid (∀ W, Grew wr W → Row W (if k = q + 1 then some ⟨b, o, none⟩ else some ⟨b, o + (q + 1), none⟩) (iV (s.drop (q + 1)))) := Lib.hid fun W hW => by
              split
              · exact Or.inl (by rw [List.drop_of_length_le (by have := HN.out; omega)]; rfl)
              · exact row_dropI (RA.out.grew (HG.out.trans hW)) _
            have HRD2 : Hid (∀ W, Grew wr W → Row W (some ⟨b, o + (q + 1), none⟩) (iV (s.drop (q + 1)))) := Lib.hid fun W hW => row_dropI (RA.out.grew (HG.out.trans hW)) _
            have HRD1 : Hid (k = q + 1 → ∀ W, Grew wr W → Row W (some ⟨b, o, none⟩) (iV (s.drop (q + 1)))) := Lib.hid fun e W _ => Or.inl (by rw [List.drop_of_length_le (by have := HN.out; omega)]; rfl)
            clear HN RA
            generalize s.take (q + 1) = st at *
            generalize s.drop (q + 1) = sd at *
            go_wp2_with (at_builtin; first | (refine wpList_app rfl (.tmp 25) (.tmp 28) 37 3 rfl w (.int .i64 0) 8 Try.underlying37 infoI rfl (by decide) _ 0 [] rfl (own_empty _ _ _ _ _ rfl HG.out.size) _ _ _ (iV st) rfl hst (HRT.out _ ((Grew.refl wr).alloc _)) (iV_one _) (by have := HQ.out; omega) (HG.out.alloc _) ?_; intro A1 c1 w1 ho1 hr1 hg1 hgb1 hor1; rw [Nat.zero_add, List.nil_append] at ho1; rw [Nat.zero_add] at hor1; have HO1 := Lib.hid ho1; have HG1 := Lib.hid hg1; have HGQ1 : Hid (Grew wr w1) := Lib.hid (((Grew.refl wr).alloc _).grown hgb1 (by intro k hk; cases hk; exact Nat.le_refl _)); have HOW1 : Hid (∀ k, (Value.slice A1 (q + 1) c1).ownBlock = some k → wr.heap.size ≤ k) := Lib.hid (by rintro k hk; rcases hor1 with h | h <;> (rw [h] at hk; cases hk; simp)); clear hor1 ho1 hr1 hg1 hgb1) | (refine wpList_app rfl (.tmp 30) (.tmp 32) 37 3 rfl w (.int .i64 0) 8 Try.underlying37 infoI rfl (by decide) _ _ _ rfl (own_alloc HO1.out _) _ 1 1 [.int .i64 v] rfl rfl (row_one _ _ _ _ rfl) (by simp [Value.oneCell']) (by have := HQ.out; omega) (HG1.out.alloc _) ?_; intro A2 c2 w2 ho2 hr2 hg2 hgb2 _; have HO2 := Lib.hid ho2; have HG2 := Lib.hid hg2; have HGQ2 : Hid (Grew wr w2) := Lib.hid ((HGQ1.out.alloc _).grown hgb2 (HOW1.out)); clear ho2 hr2 hg2 hgb2) | (refine wpList_app rfl (.tmp 34) (.tmp 37) 37 3 rfl w (.int .i64 0) 8 Try.underlying37 infoI rfl (by decide) _ _ _ rfl HO2.out _ _ _ (iV sd) rfl hsd (by first | exact HRD.out _ HGQ2.out | exact HRD2.out _ HGQ2.out | exact HRD1.out (by first | assumption | omega) _ HGQ2.out) (iV_one _) (by have := HQ.out; omega) HG2.out ?_; intro A3 c3 w3 ho3 hr3 hg3 _ _; rw [show q + 1 + 1 + (n - (q + 1)) = n + 1 by have := HQ.out; omega] at ho3 ⊢; have HF := Lib.hid (HK.out w3 A3 c3 (own_cap ho3) hg3 (by rw [← HS1.out]; simpa [iV] using TRow.own ho3)); clear ho3 hr3 hg3))
            all_goals first | exact HF.out | (go_ret; exact HF.out)
end Go.Proofs.Ytchogpdfdpbpfaa

/- Layer 21: sets and lists of sets, by the document. Condition: no more than a million numbers. -/
namespace Go.Proofs.Ytchogpdfdpbpfaa
open Go.RowKit
attribute [local go_sem] more_cell more_frozen more_more more_setCell more_of_drew more_of_drewN lt_more le_more past_cell past_cell2 past_frozen past_frozen2 past_setCell past_setCell2 mid_cell mid_frozen mid_setCell
attribute [local go_sem ↓] Go.wp_at_zero Go.wp_at_succ

/-- A set, as far as it has come. -/
def FlAt (w : World) (F : Nat → List Int) (n : Nat) (v i : Value) (wr : World) : Prop := ∃ (j : Nat) (A : Option Addr) (k : Nat), j ≤ n ∧ v = .slice A (setI (F j)).length k ∧ i = .int .i64 j ∧ (setI (F j)).length ≤ k ∧ Grew w wr ∧ TRow w.heap.size wr 3 A (iV (setI (F j)))
def SgAt (w : World) (h m : List (List Int)) (i : Value) (wr : World) : Prop := ∃ j : Nat, j ≤ h.length ∧ i = .int .i64 j ∧ Grew w wr ∧ h.take j = m.take j
set_option maxHeartbeats 4000000 in
set_option maxRecDepth 100000 in
theorem rsamegrid_any (h m : List (List Int)) (A B : Option Addr) (ka kb : Nat) (hh : h.length ≤ 1000000) (hl : ∀ l ∈ h, l.length ≤ 1000000) (hl2 : ∀ l ∈ m, l.length ≤ 1000000) (w : World) (ra : GridI (PRow w) A h) (rb : GridI (PRow w) B m) :
    Gives Try.prog 32 #[.slice A h.length ka, .slice B m.length kb] w (.bool (decide (h = m))) := by
  have RA := Lib.hid ra
  have RB := Lib.hid rb
  have HL1 := Lib.hid hl
  have HL2 := Lib.hid hl2
  obtain ⟨t, ht⟩ : ∃ t, decide (h = m) = t := ⟨_, rfl⟩
  rw [ht]
  have HT := Lib.hid ht
  clear ra rb ht hl hl2
  unfold Gives
  by_cases hmm : h.length = m.length
  · have HM := Lib.hid hmm
    rw [← hmm]
    clear hmm
    have e0 : ((h.length : Int) != (h.length : Int)) = false := by simp
    go_enter Try.func32, Try.ntmps32
    go_wp2
    go_loopw [5] (fun i wr => SgAt w h m i wr) (fun i _ => h.length - (intOf i).toNat)
    case atStart => exact ⟨0, Nat.zero_le _, rfl, Grew.refl w, rfl⟩
    case round =>
      obtain ⟨i, hi, rfl, hg, hk⟩ := hrel
      have HG := Lib.hid hg
      have HK := Lib.hid hk
      clear hg hk
      by_cases h1 : i < h.length
      · have h2 : i < m.length := by rw [← HM.out]; exact h1
        obtain ⟨b, o, C, c, rfl, hb, c0, rC⟩ := gridI_at (RA.out.grew HG.out) h1
        obtain ⟨b', o', D, d, rfl, hb', d0, rD⟩ := gridI_at (RB.out.grew HG.out) h2
        have HN : Hid (h[i] = m[i] → h.take (i + 1) = m.take (i + 1)) := Lib.hid fun q => by rw [List.take_succ_eq_append_getElem h1, List.take_succ_eq_append_getElem h2, HK.out, q]
        have HF : Hid (¬ h[i] = m[i] → t = false) := Lib.hid fun q => by
          rw [← HT.out]
          refine decide_eq_false fun e => ?_
          subst e
          exact q rfl
        have HS : Hid (∀ W, Grew wr W → Gives Try.prog 59 #[.slice C h[i].length c, .slice D m[i].length d] W (.bool (decide (h[i] = m[i])))) := Lib.hid fun W hW =>
          samelist_any h[i] m[i] C D c d W (rC.grew hW) (rD.grew hW) (Nat.le_trans (HL1.out _ (List.getElem_mem h1)) (by decide)) (Nat.le_trans (HL2.out _ (List.getElem_mem h2)) (by decide))
        clear HT HK rC rD
        obtain ⟨q, hq⟩ : ∃ q, decide (h[i] = m[i]) = q := ⟨_, rfl⟩
        rw [hq] at HS
        have HQ := Lib.hid hq
        clear hq
        generalize h[i] = x at *
        generalize m[i] = y at *
        go_upto_region 6 with fail
        have HSW : Hid (∀ x', Gives Try.prog 59 #[.slice C x.length c, .slice D y.length d] (more wr x') (.bool q)) := Lib.hid fun x' => HS.out _ ⟨x', rfl⟩
        clear HS
        refine wp_region_more (by kernel_rfl) (by kernel_rfl) ?_
        repeat (go_big_quiet_step (((go_at_call 59; with_reducible exact (HSW.out _).within))))
        refine wpQuiet_nil ?_
        rintro _ ⟨z, rfl⟩
        cases q
        · obtain rfl := HF.out (of_decide_eq_false HQ.out)
          clear HN HF
          go_wp2
          go_ret
          exact ⟨rfl, HG.out.more z⟩
        · have HN1 := Lib.hid (HN.out (of_decide_eq_true HQ.out))
          clear HN HF
          go_wp2
          exact ⟨⟨i + 1, by omega, by go_num, HG.out.more z, HN1.out⟩, by simp only [intOf]; omega⟩
      · obtain rfl : i = h.length := by omega
        obtain rfl : t = true := by
          rw [← HT.out]
          refine decide_eq_true ?_
          have := HK.out
          rwa [List.take_length, List.take_of_length_le (Nat.le_of_eq HM.out.symm)] at this
        go_wp2
        go_ret
        exact ⟨rfl, HG.out⟩
  · have e0 : ((h.length : Int) != (m.length : Int)) = true := by rw [bne_iff_ne]; omega
    obtain rfl : t = false := by
      rw [← HT.out]
      exact decide_eq_false fun e => hmm (by rw [e])
    go_enter Try.func32, Try.ntmps32
    go_wp2
    go_ret
    exact ⟨rfl, by (show Grew _ _; repeat (first | exact Grew.refl _ | refine Grew.alloc ?_ _ | refine Grew.drew ?_ | refine Grew.more ?_ _))⟩
def MuGAt (w : World) (l : List (List Int)) (i : Value) (wr : World) : Prop := ∃ j : Nat, j ≤ l.length ∧ j ≤ 20 ∧ i = .int .i64 j ∧ Grew w wr ∧ ∀ c ∈ l.take j, c.length ≤ 30
end Go.Proofs.Ytchogpdfdpbpfaa

/- Layer 21: what hangs together, by the document. Condition: no more than a thousand edges, no more than a million numbers each. -/
namespace Go.Proofs.Ytchogpdfdpbpfaa
open Go.RowKit
attribute [local go_sem] more_cell more_frozen more_more more_setCell more_of_drew more_of_drewN lt_more le_more past_cell past_cell2 past_frozen past_frozen2 past_setCell past_setCell2 mid_cell mid_frozen mid_setCell
attribute [local go_sem ↓] Go.wp_at_zero Go.wp_at_succ

theorem flat_oneg : ∀ vs : List Value, (vs.map fun v => [v]).flatten = vs
  | [] => rfl
  | a :: t => by rw [List.map_cons, List.flatten_cons, flat_oneg t]; rfl
theorem gridI_nest {w : World} {A : Option Addr} {ll : List (List Nat)} (h : NestR w A ll) : GridI (PRow w) A (ll.map fun l => l.map fun (a : Nat) => (a : Int)) := by
  obtain ⟨vs, hl, hr, hv⟩ := h
  refine ⟨vs.map fun v => [v], ⟨by simp [hl], fun i x cs h1 h2 => ?_⟩, ?_⟩
  · rw [List.getElem?_map] at h1 h2
    obtain ⟨l, hl1, rfl⟩ := Option.map_eq_some_iff.1 h1
    obtain ⟨v, hv1, rfl⟩ := Option.map_eq_some_iff.1 h2
    obtain ⟨B, c, rfl, hB⟩ := hv i v l hv1 hl1
    exact ⟨⟨B, c, by rw [List.length_map], by rw [← nL_iV]; exact hB⟩, rfl⟩
  · rw [flat_oneg]
    exact hr
theorem pair_join {h : List (List Int)} {n i q : Nat} (hi : i < n) (hq : q < n) (hs : sharesB h i q = true) :
    foldR n (pairU h i ++ pairR h i (q + 1)) = joinR (foldR n (pairU h i ++ pairR h i q)) (foldR n (pairU h i ++ pairR h i q) i) (foldR n (pairU h i ++ pairR h i q) q) := by
  rw [pairR_in hs, ← List.append_assoc, foldR_snoc]
  unfold joinI
  rw [if_pos (show inB n (i : Int) (q : Int) from ⟨by omega, by omega, by omega, by omega⟩)]
  rfl
def PgO (w : World) (h : List (List Int)) (n : Nat) (v i : Value) (wr : World) : Prop := ∃ (j : Nat) (A : Option Addr) (c : Nat), j ≤ n ∧ v = .slice A n c ∧ i = .int .i64 j ∧ Grew w wr ∧ Row wr A (numsL n (foldR n (pairU h j)))
def PgI (w : World) (h : List (List Int)) (n i : Nat) (v x : Value) (wr : World) : Prop := ∃ (q : Nat) (A : Option Addr) (c : Nat), q ≤ n ∧ v = .slice A n c ∧ x = .int .i64 q ∧ Grew w wr ∧ Row wr A (numsL n (foldR n (pairU h i ++ pairR h i q)))
end Go.Proofs.Ytchogpdfdpbpfaa

namespace Go.Proofs.Ytchogpdfdpbpfaa
open Go.RowKit
attribute [local go_sem] more_cell more_frozen more_more more_setCell more_of_drew more_of_drewN lt_more le_more past_cell past_cell2 past_frozen past_frozen2 past_setCell past_setCell2 mid_cell mid_frozen mid_setCell
attribute [local go_sem ↓] Go.wp_at_zero Go.wp_at_succ

def liveG : List (List Int) := [[1, 2], [3], [2, 4]]
theorem sharesB_any (h : List (List Int)) (i k : Nat) : sharesB h i k = (edgeAt h i).any fun v => decide (v ∈ edgeAt h k) := by
  rw [Bool.eq_iff_iff, sharesB_iff, List.any_eq_true]
  simp
theorem liveG_parts : ((clsM 3 (partR liveG)).map fun l => l.map fun (a : Nat) => (a : Int)) = [[0, 2], [1]] := by
  unfold partR pairU pairR
  simp only [sharesB_any]
  decide +kernel
theorem gridI_two {w : World} {A : Option Addr} {l m : List Int} {B C : Option Addr} {b c : Nat} (hB : Row w B (iV l)) (hC : Row w C (iV m)) (hA : Row w A [.slice B l.length b, .slice C m.length c]) : GridI (PRow w) A [l, m] := by
  refine ⟨[[.slice B l.length b], [.slice C m.length c]], ⟨rfl, fun i x cs h1 h2 => ?_⟩, hA⟩
  match i with
  | 0 => simp at h1 h2; subst h1 h2; exact ⟨⟨B, b, rfl, hB⟩, rfl⟩
  | 1 => simp at h1 h2; subst h1 h2; exact ⟨⟨C, c, rfl, hC⟩, rfl⟩
  | i + 2 => simp at h1
theorem gridI_three {w : World} {A : Option Addr} {l m p : List Int} {B C D : Option Addr} {b c d : Nat} (hB : Row w B (iV l)) (hC : Row w C (iV m)) (hD : Row w D (iV p)) (hA : Row w A [.slice B l.length b, .slice C m.length c, .slice D p.length d]) : GridI (PRow w) A [l, m, p] := by
  refine ⟨[[.slice B l.length b], [.slice C m.length c], [.slice D p.length d]], ⟨rfl, fun i x cs h1 h2 => ?_⟩, hA⟩
  match i with
  | 0 => simp at h1 h2; subst h1 h2; exact ⟨⟨B, b, rfl, hB⟩, rfl⟩
  | 1 => simp at h1 h2; subst h1 h2; exact ⟨⟨C, c, rfl, hC⟩, rfl⟩
  | 2 => simp at h1 h2; subst h1 h2; exact ⟨⟨D, d, rfl, hD⟩, rfl⟩
  | i + 3 => simp at h1
def live21W (w : World) : World := (((w.alloc (.cells #[.int .i64 1, .int .i64 2] 3)).alloc (.cells #[.int .i64 3] 3)).alloc (.cells #[.int .i64 2, .int .i64 4] 3)).alloc (.cells #[.slice (some ⟨w.heap.size, 0, none⟩) 2 2, .slice (some ⟨w.heap.size + 1, 0, none⟩) 1 1, .slice (some ⟨w.heap.size + 2, 0, none⟩) 2 2] 37)
theorem live21W_grid (w : World) : GridI (PRow (live21W w)) (some ⟨w.heap.size + 3, 0, none⟩) liveG :=
  gridI_three (l := [1, 2]) (m := [3]) (p := [2, 4]) (b := 2) (c := 1) (d := 2) (row_alloc (row_alloc (row_alloc (row_new _ _ _ _ rfl) _) _) _) (row_alloc (row_alloc (row_new _ _ _ _ (by simp)) _) _) (row_alloc (row_new _ _ _ _ (by simp)) _) (row_new _ _ _ #[_, _, _] (by simp))
theorem live21S_grid (w : World) : GridI (PRow (((w.alloc (.cells #[.int .i64 0, .int .i64 2] 3)).alloc (.cells #[.int .i64 1] 3)).alloc (.cells #[.slice (some ⟨w.heap.size, 0, none⟩) 2 2, .slice (some ⟨w.heap.size + 1, 0, none⟩) 1 1] 37))) (some ⟨w.heap.size + 1 + 1, 0, none⟩) [[0, 2], [1]] :=
  gridI_two (l := [0, 2]) (m := [1]) (b := 2) (c := 1) (row_alloc (row_alloc (row_new _ _ _ _ rfl) _) _) (row_alloc (row_new _ _ _ _ (by simp)) _) (row_new _ _ _ #[_, _] (by simp))
theorem live21_any (w : World) : Gives Try.prog 30 #[] w (.bool true) := by
  have HP := Lib.hid (parts21_any liveG 3 rfl (by decide) (by unfold wfG wfL wfI liveG; decide) (by unfold liveG; decide) (by decide) _ 3 (live21W w) (live21W_grid w))
  rw [liveG_parts] at HP
  have HG0 : Hid (Grew w (live21W w)) := Lib.hid (by unfold live21W; exact ((((Grew.refl w).alloc _).alloc _).alloc _).alloc _)
  unfold live21W at HP HG0
  unfold Gives
  go_enter Try.func30, Try.ntmps30
  go_wp2_with (first | (go_at_call 56; (with_reducible refine HP.out.mono ?_); rintro e w5 ⟨A5, k5, rfl, hg5, hr5⟩; have HG5 := Lib.hid (HG0.out.trans hg5); have HR5 := Lib.hid hr5; clear hg5 hr5 HP HG0) | (go_at_call 32; have hS := rsamegrid_any [[0, 2], [1]] [[0, 2], [1]] A5 (some ⟨w5.heap.size + 1 + 1, 0, none⟩) k5 2 (by decide) (by decide) (by decide) _ (HR5.out.grew ((((Grew.refl w5).alloc _).alloc _).alloc _)) (live21S_grid w5); rw [decide_eq_true rfl] at hS; refine hS.grows.mono ?_; rintro e w6 ⟨rfl, hg6⟩; have HG6 := Lib.hid (HG5.out.trans (((((Grew.refl w5).alloc _).alloc _).alloc _).trans hg6)); clear hS hg6))
  go_ret
  exact ⟨rfl, HG6.out⟩
end Go.Proofs.Ytchogpdfdpbpfaa

namespace Go.Proofs.Ytchogpdfdpbpfaa
open Go.RowKit
attribute [local go_sem] more_cell more_frozen more_more more_setCell more_of_drew more_of_drewN lt_more le_more past_cell past_cell2 past_frozen past_frozen2 past_setCell past_setCell2 mid_cell mid_frozen mid_setCell
attribute [local go_sem ↓] Go.wp_at_zero Go.wp_at_succ

theorem indexI_any (l : List Int) (v : Int) (A : Option Addr) (k : Nat) (hl : l.length ≤ 1000000) (w : World) (ra : Row w A (iV l)) :
    Calls Try.prog 70 #[.slice A l.length k, .int .i64 v] w fun e w' => ∃ r : Int, e = .returned (.int .i64 r) ∧ Grew w w' ∧ (decide (0 ≤ r) = decide (v ∈ l)) := by
  have RA := Lib.hid ra
  clear ra
  go_enter Try.func70, Try.ntmps70
  go_wp2
  go_loopw [8] (fun i wr => HasAt w l v i wr) (fun i _ => l.length - (intOf i).toNat)
  case atStart => exact ⟨0, Nat.zero_le _, rfl, Grew.refl w, by simp⟩
  case round =>
    obtain ⟨j, hj, rfl, hg, hn⟩ := hrel
    have HG := Lib.hid hg
    have HN := Lib.hid hn
    clear hg hn
    by_cases h : j < l.length
    · obtain ⟨b, o, rfl, hb, hc⟩ := rowI_at (RA.out.grew HG.out) h
      have HNx := Lib.hid (not_take h HN.out)
      have HY : Hid (l[j] = v → v ∈ l) := Lib.hid fun e => by rw [← e]; exact List.getElem_mem h
      clear HN
      generalize l[j] = x at *
      by_cases e : x = v
      · have HM := Lib.hid (HY.out e)
        have e1 : (v == x) = true := by simpa using e.symm
        clear HNx HY e
        go_wp2
        go_ret
        exact ⟨_, rfl, HG.out, by rw [decide_eq_true HM.out]; exact decide_eq_true (by omega)⟩
      · have HN2 := Lib.hid (HNx.out e)
        have e1 : (v == x) = false := by simpa using fun q => e q.symm
        clear HNx HY e
        go_wp2
        exact ⟨⟨j + 1, by omega, by go_num, HG.out, HN2.out⟩, by simp only [intOf]; omega⟩
    · obtain rfl : j = l.length := by omega
      rw [List.take_length] at HN
      go_wp2
      go_ret
      exact ⟨_, rfl, HG.out, by rw [decide_eq_false HN.out]; rfl⟩
theorem containsI_any (l : List Int) (v : Int) (A : Option Addr) (k : Nat) (hl : l.length ≤ 1000000) (w : World) (ra : Row w A (iV l)) :
    Gives Try.prog 62 #[.slice A l.length k, .int .i64 v] w (.bool (decide (v ∈ l))) := by
  have HI := Lib.hid (indexI_any l v A k hl w ra)
  clear ra
  generalize decide (v ∈ l) = t at *
  unfold Gives
  go_enter Try.func62, Try.ntmps62
  go_wp2_with fail
  refine HI.out.mono ?_
  rintro e w2 ⟨r, rfl, hg2, hr⟩
  have HG2 := Lib.hid hg2
  clear hg2 HI
  have HR := Lib.hid hr
  clear hr
  go_wp2
  go_ret
  exact ⟨by rw [← HR.out]; rfl, HG2.out⟩
/-- How many edges have one. -/
def degI (h : List (List Int)) (v : Int) : Nat := (h.filter fun e => decide (v ∈ e)).length
theorem degI_in {h : List (List Int)} {v : Int} {j : Nat} (hj : j < h.length) (hv : v ∈ h[j]) : degI (h.take (j + 1)) v = degI (h.take j) v + 1 := by
  unfold degI
  rw [List.take_succ_eq_append_getElem hj, List.filter_append]
  simp [hv]
theorem degI_out {h : List (List Int)} {v : Int} {j : Nat} (hj : j < h.length) (hv : v ∉ h[j]) : degI (h.take (j + 1)) v = degI (h.take j) v := by
  unfold degI
  rw [List.take_succ_eq_append_getElem hj, List.filter_append]
  simp [hv]
theorem degI_le (h : List (List Int)) (v : Int) (j : Nat) : degI (h.take j) v ≤ j := by
  unfold degI
  exact Nat.le_trans (List.length_filter_le _ _) (by rw [List.length_take]; omega)
def DegAt (w : World) (h : List (List Int)) (v : Int) (x i : Value) (wr : World) : Prop := ∃ j : Nat, j ≤ h.length ∧ x = .int .i64 (degI (h.take j) v) ∧ i = .int .i64 j ∧ Grew w wr
set_option maxHeartbeats 600000 in
set_option maxRecDepth 100000 in
theorem degree21_any (h : List (List Int)) (v : Int) (A : Option Addr) (k : Nat) (hl : h.length ≤ 1000000) (hel : ∀ e ∈ h, e.length ≤ 1000000) (w : World) (ra : GridI (PRow w) A h) :
    Gives Try.prog 36 #[.slice A h.length k, .int .i64 v] w (.int .i64 (degI h v)) := by
  have RA := Lib.hid ra
  have HEl := Lib.hid hel
  clear ra hel
  obtain ⟨fin, hfin⟩ : ∃ fin, degI h v = fin := ⟨_, rfl⟩
  rw [hfin]
  have HFin := Lib.hid hfin
  clear hfin
  unfold Gives
  go_enter Try.func36, Try.ntmps36
  go_wp2
  go_loopw [5, 10] (fun x i wr => DegAt w h v x i wr) (fun _ i _ => h.length - (intOf i).toNat)
  case atStart => exact ⟨0, Nat.zero_le _, rfl, rfl, Grew.refl w⟩
  case round =>
    obtain ⟨j, hj, rfl, rfl, hg⟩ := hrel
    have HG := Lib.hid hg
    clear hg
    have hd := degI_le h v j
    by_cases h1 : j < h.length
    · obtain ⟨b, o, B, c, rfl, hb, hc, hr⟩ := gridI_at (RA.out.grew HG.out) h1
      have HC := Lib.hid (containsI_any h[j] v B c (HEl.out _ (List.getElem_mem h1)) wr hr)
      have HIn := Lib.hid (degI_in (v := v) h1)
      have HOut := Lib.hid (degI_out (v := v) h1)
      clear hr
      generalize h[j] = e at *
      by_cases hv : v ∈ e
      · rw [decide_eq_true hv] at HC
        have HI := Lib.hid (HIn.out hv)
        clear HIn HOut hv
        generalize degI (List.take j h) v = d at *
        go_wp2_with (go_at_call 62; (with_reducible refine HC.out.grows.mono ?_); rintro e w6 ⟨rfl, hg6⟩; have HG6 := Lib.hid (HG.out.trans hg6); clear hg6)
        exact ⟨⟨j + 1, by omega, by rw [HI.out]; go_num, by go_num, HG6.out⟩, by simp only [intOf]; omega⟩
      · rw [decide_eq_false hv] at HC
        have HO := Lib.hid (HOut.out hv)
        clear HIn HOut hv
        generalize degI (List.take j h) v = d at *
        go_wp2_with (go_at_call 62; (with_reducible refine HC.out.grows.mono ?_); rintro e w6 ⟨rfl, hg6⟩; have HG6 := Lib.hid (HG.out.trans hg6); clear hg6)
        exact ⟨⟨j + 1, by omega, by rw [HO.out], by go_num, HG6.out⟩, by simp only [intOf]; omega⟩
    · obtain rfl : j = h.length := by omega
      have HE : Hid (degI (h.take h.length) v = fin) := Lib.hid (by rw [List.take_length]; exact HFin.out)
      generalize degI (List.take h.length h) v = d at *
      obtain rfl := HE.out
      clear HE HFin
      go_wp2
      go_ret
      exact ⟨rfl, HG.out⟩
theorem rising_adj {l : List Int} (H : ∀ i (_ : i + 1 < l.length), l[i] < l[i + 1]) : Rising l := by
  unfold Rising
  rw [List.pairwise_iff_getElem]
  intro i j hi hj hij
  induction j with
  | zero => omega
  | succ j ih =>
    by_cases e : i = j
    · subst e; exact H i hj
    · exact Int.lt_trans (ih (by omega) (by omega)) (H j hj)
theorem rising_not {l : List Int} {i : Nat} (hi : i + 1 < l.length) (h : ¬ l[i] < l[i + 1]) : ¬ Rising l := fun hr => by
  unfold Rising at hr
  rw [List.pairwise_iff_getElem] at hr
  exact h (hr i (i + 1) (by omega) hi (by omega))
/-- Are all edges rising, each number once? -/
def riseB (h : List (List Int)) : Bool := h.all fun e => decide (setI e = e)
theorem riseB_snoc (h : List (List Int)) (e : List Int) : riseB (h ++ [e]) = (riseB h && decide (setI e = e)) := by
  unfold riseB
  simp
def RiO (w : World) (h : List (List Int)) (i : Value) (wr : World) : Prop := ∃ j : Nat, j ≤ h.length ∧ i = .int .i64 j ∧ Grew w wr ∧ riseB (h.take j) = true
def RiI (w : World) (l : List Int) (i : Value) (wr : World) : Prop := ∃ q : Nat, (q + 1 ≤ l.length ∨ q = 0) ∧ i = .int .i64 ((q + 1 : Nat) : Int) ∧ Grew w wr ∧ ∀ i, i < q → ∀ (_ : i + 1 < l.length), l[i] < l[i + 1]
set_option maxHeartbeats 600000 in
set_option maxRecDepth 100000 in
theorem right21_any (h : List (List Int)) (A : Option Addr) (k : Nat) (hl : h.length ≤ 1000000) (hel : ∀ e ∈ h, e.length ≤ 1000000) (w : World) (ra : GridI (PRow w) A h) :
    Gives Try.prog 34 #[.slice A h.length k] w (.bool (riseB h)) := by
  have RA := Lib.hid ra
  have HEl := Lib.hid hel
  obtain ⟨t, ht⟩ : ∃ t, riseB h = t := ⟨_, rfl⟩
  rw [ht]
  have HT := Lib.hid ht
  clear ra hel ht
  unfold Gives
  go_enter Try.func34, Try.ntmps34
  go_wp2
  go_loopw [8] (fun i wr => RiO w h i wr) (fun i _ => h.length - (intOf i).toNat)
  case atStart => exact ⟨0, Nat.zero_le _, rfl, Grew.refl w, rfl⟩
  case round =>
    obtain ⟨j, hj, rfl, hg, hk⟩ := hrel
    have HG := Lib.hid hg
    have HK := Lib.hid hk
    clear hg hk
    by_cases h1 : j < h.length
    · obtain ⟨b, o, B, c, rfl, hb, hc, hr⟩ := gridI_at (RA.out.grew HG.out) h1
      have hle := HEl.out _ (List.getElem_mem h1)
      have HR := Lib.hid (fun W (hW : Grew wr W) => hr.grew hW)
      have HY : Hid (setI h[j] = h[j] → riseB (h.take (j + 1)) = true) := Lib.hid fun e => by
        rw [List.take_succ_eq_append_getElem h1, riseB_snoc, HK.out, decide_eq_true e]; rfl
      have HNo : Hid (setI h[j] ≠ h[j] → t = false) := Lib.hid fun e => by
        rw [← HT.out]
        unfold riseB
        rw [List.all_eq_false]
        exact ⟨_, List.getElem_mem h1, by simpa using e⟩
      clear hr HK HT
      generalize h[j] = l at *
      go_wp2
      go_loopw [5] (fun i wx => RiI wr l i wx) (fun i _ => l.length - (intOf i).toNat)
      case atStart => exact ⟨0, Or.inr rfl, rfl, Grew.refl wr, fun i hi => by omega⟩
      case round =>
        obtain ⟨q, hq, rfl, hg2, hs⟩ := hrel
        have HG2 := Lib.hid hg2
        have HS := Lib.hid hs
        clear hg2 hs hb hc
        by_cases h2 : q + 1 < l.length
        · obtain ⟨b2, o2, rfl, hb2, hc2⟩ := rowI_at (HR.out _ HG2.out) (show q < l.length by omega)
          have hc3 := (irow_cell (HR.out _ HG2.out) h2 rfl).2
          have HNx : Hid (l[q] < l[q + 1] → ∀ i, i < q + 1 → ∀ (_ : i + 1 < l.length), l[i] < l[i + 1]) := Lib.hid fun e i hi hil => by
            by_cases e2 : i = q
            · subst e2; exact e
            · exact HS.out i (by omega) hil
          have HX : Hid (¬ l[q] < l[q + 1] → t = false) := Lib.hid fun e => HNo.out fun e2 => rising_not h2 e ((setI_same_iff l).1 e2)
          clear HY HNo HS
          generalize l[q] = x at *
          generalize l[q + 1] = y at *
          by_cases hxy : x < y
          · have HN1 := Lib.hid (HNx.out hxy)
            clear HNx HX
            go_wp2
            go_quiet (fail)
            go_wp2
            exact ⟨⟨q + 1, by omega, by go_num, HG2.out.drewN _, HN1.out⟩, by simp only [intOf]; omega⟩
          · obtain rfl := HX.out hxy
            have hyx : y ≤ x := by omega
            clear HNx HX hxy
            go_wp2
            go_quiet (fail)
            go_wp2
            go_ret
            exact ⟨rfl, (HG.out.trans HG2.out).drewN _⟩
        · have HY1 := Lib.hid (HY.out ((setI_same_iff l).2 (rising_adj fun i hi => HS.out i (by omega) hi)))
          have h2' : (l.length : Int) ≤ ((q + 1 : Nat) : Int) := by omega
          clear HY HNo HS
          go_wp2
          exact ⟨⟨j + 1, by omega, by go_num, HG.out.trans HG2.out, HY1.out⟩, by simp only [intOf]; omega⟩
    · obtain rfl : j = h.length := by omega
      rw [List.take_length] at HK
      obtain rfl : t = true := by rw [← HT.out]; exact HK.out
      go_wp2
      go_ret
      exact ⟨rfl, HG.out⟩
def SeAt (w : World) (h : List (List Int)) (v i : Value) (wr : World) : Prop := ∃ (j : Nat) (A : Option Addr) (c : Nat) (css : List (List Value)), j ≤ h.length ∧ v = .slice A j c ∧ i = .int .i64 j ∧ GatG w w.heap.size ((h.take j).map setI) A c css wr
end Go.Proofs.Ytchogpdfdpbpfaa
