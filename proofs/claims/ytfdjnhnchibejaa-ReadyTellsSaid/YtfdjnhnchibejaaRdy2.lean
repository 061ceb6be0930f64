/- Layer 33: which pipes are left, as a set; which may go on. Condition: no more than a million pipes. -/
import Derived.Test.YtfdjnhnchibejaaRdy1
import Derived.Test.YtfdjnhnchibejaaEE
namespace Go.Proofs.Ytfdjnhnchibejaa
open Go.RowKit Go.WideElems Go.MapKept Go.Maps
attribute [local go_sem] more_cell more_frozen more_more more_setCell more_of_drew more_of_drewN lt_more le_more past_cell past_cell2 past_frozen past_frozen2 past_setCell past_setCell2 mid_cell mid_frozen mid_setCell
attribute [local go_sem ↓] Go.wp_at_zero Go.wp_at_succ

/-- Block b is a set of just the numbers of L, with no more than c entries that were ever put. -/
def SetQ (w : World) (b c : Nat) (L : List Int) : Prop := ∃ (n : Nat) (D : DataW Unit), n ≤ c ∧ w.ownsMap Try.prog 3 unitElem b n D ∧ ∀ x, wfI x → (Maps.has D (.int .i64 x) = true ↔ x ∈ L)
theorem SetQ.kept {w w' : World} {b c : Nat} {L : List Int} {row : Option Nat} (h : SetQ w b c L) (g : w.grownBy w' row) (hr : some b ≠ row) : SetQ w' b c L := by
  obtain ⟨n, D, hn, h, k⟩ := h
  exact ⟨n, D, hn, h.kept g hr, k⟩
theorem grownBy_grew {w w' : World} (g : Grew w w') : w.grownBy w' none := by
  have hb := g.below
  exact ⟨hb.os, hb.tape, hb.output, hb.size, fun i hi _ => hb.block i hi⟩
theorem SetQ.grew {w w' : World} {b c : Nat} {L : List Int} (h : SetQ w b c L) (g : Grew w w') : SetQ w' b c L := h.kept (grownBy_grew g) (by simp)
theorem SetQ.lt {w : World} {b c : Nat} {L : List Int} (h : SetQ w b c L) : b < w.heap.size := by
  obtain ⟨n, D, _, h, _⟩ := h
  exact h.lt
theorem setQ_new (w : World) (b : Nat) (hb : b = w.heap.size) : SetQ (w.alloc (.map #[] 0)) b 0 [] := by
  subst hb
  exact ⟨0, .map [], Nat.le_refl _, World.ownsMap_made w _ _ _, fun x _ => by simp [Maps.has]⟩
section
variable {w : World} {ops : Array Oper} {rest : List Oper} {o : Oper} {a : Act} {Q : Exit → Act → World → Prop} {b c : Nat} {L : List Int}
theorem wpList_qput (hg : o.guard = none) (m x v : Operand) (hop : o.op = Op.mapUpdate 159 m x v) (hm : a.eval m = .map (some b)) (h : SetQ w b c L) (hc : c ≤ 1000000) (z : Int) (hz : wfI z) (hx : a.eval x = .int .i64 z) (hv : a.eval v = .agg #[])
    (hK : ∀ w', SetQ w' b (c + 1) (L ++ [z]) → w.grownBy w' (some b) → wpList Try.prog ops Q rest (a.put o.dst undef) w') : wpList Try.prog ops Q (o :: rest) a w := by
  obtain ⟨n, D, hn, h, k⟩ := h
  refine wpList_mapUpdate_own w hg m x v 159 hop 3 162 law_int Try.underlying159 unitElem b n D hm h (by unfold maxLen; omega) (.int .i64 z) (.agg #[]) (.int .i64 z) hx hv (key_int hz) (.agg []) [] unitElem_mk ?_
  intro w' h' hg'
  refine hK w' ⟨n + 1, _, by omega, h', fun y hy => ?_⟩ hg'
  by_cases e : y = z
  · subst e
    rw [has_put_same h.isMap (law_int.key (key_int hy))]
    simp
  · rw [has_put_other (fun e' => e (by injection e')), k y hy]
    simp [e]
theorem wpList_qhas (hg : o.guard = none) (m x : Operand) (hop : o.op = Op.lookup 159 m x true) (hm : a.eval m = .map (some b)) (h : SetQ w b c L) (z : Int) (hz : wfI z) (hx : a.eval x = .int .i64 z)
    (hK : wpList Try.prog ops Q rest (a.put o.dst (.tuple #[.agg #[], .bool (decide (z ∈ L))])) w) : wpList Try.prog ops Q (o :: rest) a w := by
  obtain ⟨n, D, hn, h, k⟩ := h
  refine wpList_lookup_own_unit w hg m x 159 hop 3 162 law_int Try.underlying159 (zero_unit w) b n D hm h (.int .i64 z) (.int .i64 z) hx (key_int hz) ?_
  have e : Maps.has D (.int .i64 z) = decide (z ∈ L) := by
    have := k z hz
    cases h1 : Maps.has D (.int .i64 z)
    · exact (decide_eq_false (fun h2 => by rw [this.2 h2] at h1; cases h1)).symm
    · exact (decide_eq_true (this.1 h1)).symm
  rw [e]
  exact hK
theorem wpList_qdel (hg : o.guard = none) (m x : Operand) (hop : o.op = Op.call { callee := Callee.builtin Builtin.delete, args := #[m, x], argTypes := #[159, 3] }) (hm : a.eval m = .map (some b)) (h : SetQ w b c L) (z : Int) (hz : wfI z) (hx : a.eval x = .int .i64 z)
    (hK : ∀ w', SetQ w' b c (L.filter fun y => !(y == z)) → w.grownBy w' (some b) → wpList Try.prog ops Q rest (a.put o.dst (.tuple #[])) w') : wpList Try.prog ops Q (o :: rest) a w := by
  obtain ⟨n, D, hn, h, k⟩ := h
  refine wpList_delete_own w hg m x 159 3 hop 162 law_int Try.underlying159 unitElem b n D hm h (.int .i64 z) (.int .i64 z) hx (key_int hz) ?_
  intro w' h' hg'
  refine hK w' ⟨n, _, hn, h', fun y hy => ?_⟩ hg'.grown
  rw [List.mem_filter]
  by_cases e : y = z
  · subst e
    rw [has_del_same]
    simp
  · rw [has_del_other (fun e' => e (by injection e')), k y hy]
    simp [e]
end
def SetQR (w : World) (b r c : Nat) (L : List Int) (left : Int → Bool) (cnt : Nat) : Prop := ∃ (n : Nat) (D : DataW Unit) (lf : Lit → Bool), n ≤ c ∧ w.ranges Try.prog 3 unitElem b r n D lf cnt ∧
  (∀ x, wfI x → (Maps.has D (.int .i64 x) = true ↔ x ∈ L)) ∧ (∀ x, wfI x → lf (.int .i64 x) = left x) ∧ ∀ x, wfI x → left x = true → x ∈ L
theorem SetQR.set {w : World} {b r c cnt : Nat} {L : List Int} {left : Int → Bool} (h : SetQR w b r c L left cnt) : SetQ w b c L := by
  obtain ⟨n, D, lf, hn, h, k, _⟩ := h
  exact ⟨n, D, hn, h.owns, k⟩
theorem SetQR.kept {w w' : World} {b r c cnt : Nat} {L : List Int} {left : Int → Bool} {row : Option Nat} (h : SetQR w b r c L left cnt) (g : w.grownBy w' row) (hb : some b ≠ row) (hr : some r ≠ row) : SetQR w' b r c L left cnt := by
  obtain ⟨n, D, lf, hn, h, k⟩ := h
  exact ⟨n, D, lf, hn, h.kept g hb hr, k⟩
theorem SetQR.grew {w w' : World} {b r c cnt : Nat} {L : List Int} {left : Int → Bool} (h : SetQR w b r c L left cnt) (g : Grew w w') : SetQR w' b r c L left cnt := h.kept (grownBy_grew g) (by simp) (by simp)
theorem SetQR.left_eq {w : World} {b r c cnt : Nat} {L : List Int} {left : Int → Bool} (h : SetQR w b r c L left cnt) : cntOf w b r = cnt := by
  obtain ⟨n, D, lf, hn, h, _⟩ := h
  exact h.left_eq
section
variable {w : World} {ops : Array Oper} {rest : List Oper} {o : Oper} {a : Act} {Q : Exit → Act → World → Prop} {b c : Nat} {L : List Int}
theorem wpList_qrange (hg : o.guard = none) (m : Operand) (hop : o.op = Op.range 159 m) (hm : a.eval m = .map (some b)) (h : SetQ w b c L)
    (hK : ∀ w' cnt, SetQR w' b w.heap.size c L (fun x => decide (x ∈ L)) cnt → w.grownBy w' none → w'.heap.size = w.heap.size + 1 → wpList Try.prog ops Q rest (a.put o.dst (.pointer (some ⟨w.heap.size, 0, none⟩))) w') : wpList Try.prog ops Q (o :: rest) a w := by
  obtain ⟨n, D, hn, h, k⟩ := h
  refine wpList_range_own w hg m 159 hop 3 162 law_int Try.underlying159 unitElem b n D hm h ?_
  intro w' h1 h2 h3
  refine hK w' _ ⟨n, D, Maps.has D, hn, h1, k, fun x hx => ?_, fun x _ hl => by simpa using hl⟩ h2 h3
  have := k x hx
  cases h4 : Maps.has D (.int .i64 x)
  · exact (decide_eq_false (fun h5 => by rw [this.2 h5] at h4; cases h4)).symm
  · exact (decide_eq_true (this.1 h4)).symm
theorem wpList_qnext (hg : o.guard = none) (it : Operand) (hop : o.op = Op.next it false) (r : Nat) (left : Int → Bool) (cnt : Nat) (hit : a.eval it = .pointer (some ⟨r, 0, none⟩)) (h : SetQR w b r c L left cnt)
    (hDone : (∀ x, wfI x → left x = false) → wpList Try.prog ops Q rest (a.put o.dst (.tuple #[.bool false])) w)
    (hMore : ∀ (x : Int) (w' : World) (cnt' : Nat), wfI x → left x = true → x ∈ L → SetQR w' b r c L (fun y => left y && !(y == x)) cnt' → cnt' < cnt → w.grownBy w' (some r) → w'.heap.size = w.heap.size →
      (Instr.entry (.pointer (some ⟨r, 0, none⟩))).run Try.prog w' = .ok (.tuple #[.int .i64 x, .agg #[]]) w' → wpList Try.prog ops Q rest (a.put o.dst (.tuple #[.bool true, .int .i64 x, .agg #[]])) w') : wpList Try.prog ops Q (o :: rest) a w := by
  obtain ⟨n, D, lf, hn, h, k, kl, ks⟩ := h
  refine wpList_next_ranges (α := Int) (β := Unit) w hg it hop 3 law_int unitElem (Value.int .i64) (fun _ => .agg #[]) (fun key kl hkey => by obtain ⟨x, rfl, _⟩ := Maps.keyOf_int_inv Try.underlying3 hkey; exact ⟨x, rfl⟩) (fun v y hv => ⟨(), (unitElem_inv hv).1⟩)
    b r n D lf cnt hit h ?_ ?_
  · intro _ hl
    exact hDone fun x hx => by rw [← kl x hx]; exact hl _
  · intro x _ kl' y w' cnt' hkey hlx _ _ h1 h2 h3 h4 h5
    obtain ⟨x', ex, rfl, hwx⟩ := Maps.keyOf_int_inv Try.underlying3 hkey
    injection ex with _ ex
    subst ex
    have hl : left x = true := by rw [← kl x hwx]; exact hlx
    refine hMore x w' cnt' hwx hl (ks x hwx hl) ⟨n, D, _, hn, h1, k, fun z hz => ?_, fun z hz hlz => ks z hz (by simp at hlz; exact hlz.1)⟩ h2 h3 h4 h5
    simp only
    rw [kl z hz, sameK]
end
/-- Are all that a pipe needs there, and none of them left? -/
def bhI (nd : List (List Int)) (L : List Int) (t : Nat) : Bool := (edgeAt nd t).all fun x => !(decide (x ∈ L)) && (decide (0 ≤ x) && decide (x < nd.length))
def BhAt (w : World) (e L : List Int) (n : Nat) (x : Value) (wr : World) : Prop := ∃ j : Nat, j ≤ e.length ∧ x = .int .i64 j ∧ Grew w wr ∧ ∀ y ∈ e.take j, (!(decide (y ∈ L)) && (decide (0 ≤ y) && decide (y < (n : Int)))) = true
set_option maxHeartbeats 2000000 in
set_option maxRecDepth 100000 in
theorem behind33_any (o : Oth) (nd : List (List Int)) (n : Nat) (hn : nd.length = n) (hw : wfG nd) (hel : ∀ e ∈ nd, e.length ≤ 30) (A : Option Addr) (k b c : Nat) (L : List Int) (t : Nat) (ht : t < n) (w : World) (ra : PipsR w A nd) (hs : SetQ w b c L) :
    Gives Try.prog 199 #[plV o A n k, .map (some b), .int .i64 t] w (.bool (bhI nd L t)) := by
  have RA := Lib.hid ra
  have HS := Lib.hid hs
  have hth : t < nd.length := by omega
  obtain ⟨q, hq⟩ : ∃ q, bhI nd L t = q := ⟨_, rfl⟩
  have HNo : Hid (∀ y ∈ nd[t], (!(decide (y ∈ L)) && (decide (0 ≤ y) && decide (y < (n : Int)))) = false → q = false) := Lib.hid fun y hy h => by
    rw [← hq]
    unfold bhI
    rw [edgeAt_eq hth, List.all_eq_false]
    exact ⟨y, hy, by rw [hn, h]; simp⟩
  have HYes : Hid ((∀ y ∈ nd[t], (!(decide (y ∈ L)) && (decide (0 ≤ y) && decide (y < (n : Int)))) = true) → q = true) := Lib.hid fun h => by
    rw [← hq]
    unfold bhI
    rw [edgeAt_eq hth, List.all_eq_true, hn]
    exact h
  have HWl := Lib.hid (hw _ (List.getElem_mem hth))
  have hl30 := hel _ (List.getElem_mem hth)
  obtain ⟨pb, po, D, d, rfl, hpb, hpc, hpr⟩ := pips_at ra hth
  have HP := Lib.hid (fun W (hW : Grew w W) => And.intro (Nat.lt_of_lt_of_le hpb hW.size) (And.intro ((hW.cell (a := ⟨pb, po + t * 3 + 2, none⟩) hpb).trans hpc) (hpr.grew hW)))
  rw [hq]
  clear hq ra hs hw hel hn hpc hpr hpb
  generalize nd[t] = e at *
  clear hth RA
  unfold Gives plV
  have HB0 : Hid (Blok (w.alloc (.cells (plC o (some ⟨pb, po, none⟩) n k) 117)) w.heap.size 117 (plC o (some ⟨pb, po, none⟩) n k)) := Lib.hid (Blok.new _ _ _ _ rfl)
  have HG0 : Hid (Grew w (w.alloc (.cells (plC o (some ⟨pb, po, none⟩) n k) 117))) := Lib.hid ((Grew.refl w).alloc _)
  go_enter Try.func199, Try.ntmps199
  go_upto_region 1 with fail
  obtain ⟨w1, hw1⟩ : ∃ w1, w1 = w.alloc (.cells (plC o (some ⟨pb, po, none⟩) n k) 117) := ⟨_, rfl⟩
  rw [← hw1] at HB0 HG0 ⊢
  clear hw1
  generalize w.heap.size = g at *
  obtain ⟨b0, _, _, b1, _, _, _⟩ := boxP HB0.out
  obtain ⟨p0, p1, _⟩ := HP.out _ HG0.out
  go_wp2
  clear b0 b1 p0 p1
  go_loopw [18] (fun x wr => BhAt w1 e L n x wr) (fun x _ => e.length - (intOf x).toNat)
  case atStart => exact ⟨0, Nat.zero_le _, rfl, Grew.refl _, by simp⟩
  case round =>
    obtain ⟨j, hj, rfl, hg, hk⟩ := hrel
    have HG := Lib.hid (HG0.out.trans hg)
    have HG1 := Lib.hid hg
    obtain ⟨b0, _, _, b1, _, _, _⟩ := boxP (HB0.out.grew hg)
    have HK := Lib.hid hk
    clear hg hk
    by_cases h1 : j < e.length
    · obtain ⟨b2, o2, rfl, hb2, hc2⟩ := rowI_at (HP.out _ HG.out).2.2 h1
      have hwx := HWl.out _ (List.getElem_mem h1)
      have HNx : Hid ((!(decide (e[j] ∈ L)) && (decide (0 ≤ e[j]) && decide (e[j] < (n : Int)))) = true → ∀ y ∈ e.take (j + 1), (!(decide (y ∈ L)) && (decide (0 ≤ y) && decide (y < (n : Int)))) = true) := Lib.hid fun h y hy => by
        rw [List.take_succ_eq_append_getElem h1] at hy
        rcases List.mem_append.1 hy with hy | hy
        · exact HK.out y hy
        · rw [List.mem_singleton.1 hy]; exact h
      have HF := Lib.hid (HNo.out _ (List.getElem_mem h1))
      have HSx := Lib.hid (HS.out.grew HG.out)
      clear HK HNo HYes
      generalize e[j] = x at *
      obtain ⟨m, hm⟩ : ∃ m, decide (x ∈ L) = m := ⟨_, rfl⟩
      have HM := Lib.hid hm
      rw [hm] at HNx HF
      clear hm
      go_upto_region 5 with (at_lookup; refine wpList_qhas rfl _ _ rfl rfl HSx.out x hwx rfl ?_; rw [HM.out])
      have HG2 := Lib.hid (HG1.out.alloc (.cells #[] 162))
      have HG3 := Lib.hid (HG.out.alloc (.cells #[] 162))
      clear b0 b1
      generalize wr.alloc (.cells #[] 162) = w2 at *
      obtain ⟨b0, _, _, b1, _, _, _⟩ := boxP (HB0.out.grew HG2.out)
      clear hb2 hc2
      cases m
      rotate_left
      · obtain rfl := HF.out (by simp)
        clear HNx HF
        go_wp2
        go_ret
        exact ⟨rfl, HG3.out⟩
      · by_cases h2 : x < 0
        · obtain rfl := HF.out (by rw [decide_eq_false (by omega : ¬ (0 : Int) ≤ x)]; simp)
          have e2 : decide (x < 0) = true := decide_eq_true h2
          clear HNx HF
          go_wp2
          go_ret
          exact ⟨rfl, HG3.out⟩
        · have e2 : decide (x < 0) = false := decide_eq_false h2
          have h2' : 0 ≤ x := by omega
          by_cases h3 : x < (n : Int)
          · have e3 : decide ((n : Int) ≤ x) = false := decide_eq_false (by omega)
            have HN1 := Lib.hid (HNx.out (by rw [decide_eq_true h2', decide_eq_true h3]; rfl))
            clear HNx HF h2
            go_wp2
            exact ⟨⟨j + 1, by omega, by go_num, HG2.out, HN1.out⟩, by simp only [intOf]; omega⟩
          · have e3 : decide ((n : Int) ≤ x) = true := decide_eq_true (by omega)
            have h3' : (n : Int) ≤ x := by omega
            obtain rfl := HF.out (by rw [decide_eq_false h3]; simp)
            clear HNx HF h2 h3
            go_wp2
            go_ret
            exact ⟨rfl, HG3.out⟩
    · obtain rfl : j = e.length := by omega
      rw [List.take_length] at HK
      obtain rfl := HYes.out HK.out
      clear HK HYes HNo
      go_wp2
      go_ret
      exact ⟨rfl, HG.out⟩
/-- The least one that may go on, of those that have been met. -/
def LstP (L : List Int) (bh : Int → Bool) (left : Int → Bool) (out : Int) : Prop :=
  (out = -1 ∧ ∀ x, wfI x → x ∈ L → left x = false → bh x = false) ∨ (0 ≤ out ∧ out ∈ L ∧ bh out = true ∧ ∀ x, wfI x → x ∈ L → left x = false → bh x = true → out ≤ x)
theorem lst_put {L : List Int} {bh left : Int → Bool} {out x : Int} (P : LstP L bh left out) (hx : x ∈ L) (h0 : 0 ≤ x) :
    ((out < 0 ∨ x < out) → bh x = true → LstP L bh (fun y => left y && !(y == x)) x) ∧ ((¬ (out < 0 ∨ x < out) ∨ bh x = false) → LstP L bh (fun y => left y && !(y == x)) out) := by
  have hl : ∀ y, (left y && !(y == x)) = false → left y = false ∨ y = x := fun y hy => by
    by_cases e : y = x
    · exact Or.inr e
    · have : (!(y == x)) = true := by simpa using e
      rw [this, Bool.and_true] at hy
      exact Or.inl hy
  constructor
  · intro h1 h2
    refine Or.inr ⟨h0, hx, h2, fun y hy hyL hly hby => ?_⟩
    rcases hl y hly with h3 | h3
    · rcases P with ⟨e, h4⟩ | ⟨h4, _, _, h5⟩
      · rw [h4 y hy hyL h3] at hby; cases hby
      · have := h5 y hy hyL h3 hby
        omega
    · omega
  · intro h1
    rcases P with ⟨e, h4⟩ | ⟨h4, h5, h6, h7⟩
    · refine Or.inl ⟨e, fun y hy hyL hly => ?_⟩
      rcases hl y hly with h3 | h3
      · exact h4 y hy hyL h3
      · subst h3
        rcases h1 with h1 | h1
        · omega
        · exact h1
    · refine Or.inr ⟨h4, h5, h6, fun y hy hyL hly hby => ?_⟩
      rcases hl y hly with h3 | h3
      · exact h7 y hy hyL h3 hby
      · subst h3
        rcases h1 with h1 | h1
        · omega
        · rw [h1] at hby; cases hby
def LsAt (w : World) (b r c : Nat) (L : List Int) (bh : Int → Bool) (x5 : Value) (wr : World) : Prop := ∃ (left : Int → Bool) (cnt : Nat) (out : Int), x5 = .int .i64 out ∧ Grew w wr ∧ SetQR wr b r c L left cnt ∧ LstP L bh left out
set_option maxHeartbeats 2000000 in
set_option maxRecDepth 100000 in
theorem least33_any (o : Oth) (nd : List (List Int)) (n : Nat) (hn : nd.length = n) (hw : wfG nd) (hel : ∀ e ∈ nd, e.length ≤ 30) (A : Option Addr) (k b c : Nat) (L : List Int) (hL : ∀ x ∈ L, ∃ t : Nat, x = (t : Int) ∧ t < n) (fin : Int)
    (hfin : ∀ out, LstP L (fun x => bhI nd L x.toNat) (fun _ => false) out → out = fin) (w : World) (ra : PipsR w A nd) (hs : SetQ w b c L) :
    Gives Try.prog 172 #[plV o A n k, .map (some b)] w (.int .i64 fin) := by
  have HBh := Lib.hid (fun t (ht : t < n) W (hW : Grew w W) => behind33_any o nd n hn hw hel A k b c L t ht W (ra.grew hW) (hs.grew hW))
  have HS := Lib.hid hs
  have HL := Lib.hid hL
  have HFin := Lib.hid hfin
  have hbl := hs.lt
  clear ra hs hw hel hn hL hfin
  obtain ⟨bh, hbh⟩ : ∃ bh, (fun x : Int => bhI nd L x.toNat) = bh := ⟨_, rfl⟩
  have HBh2 : Hid (∀ (t : Nat), t < n → ∀ W, Grew w W → Gives Try.prog 199 #[plV o A n k, .map (some b), .int .i64 (t : Int)] W (.bool (bh t))) := Lib.hid fun t ht W hW => by
    have := HBh.out t ht W hW
    rw [← hbh]
    simpa using this
  rw [hbh] at HFin
  clear hbh HBh
  unfold Gives
  unfold plV at *
  have HB0 : Hid (Blok (w.alloc (.cells (plC o A n k) 117)) w.heap.size 117 (plC o A n k)) := Lib.hid (Blok.new _ _ _ _ rfl)
  have HG0 : Hid (Grew w (w.alloc (.cells (plC o A n k) 117))) := Lib.hid ((Grew.refl w).alloc _)
  go_enter Try.func172, Try.ntmps172
  go_upto_region 1 with fail
  obtain ⟨w1, hw1⟩ : ∃ w1, w1 = w.alloc (.cells (plC o A n k) 117) := ⟨_, rfl⟩
  rw [← hw1] at HB0 HG0 ⊢
  clear hw1
  generalize w.heap.size = g at *
  go_wp2_with (at_range; refine wpList_qrange rfl _ rfl rfl (HS.out.grew HG0.out) ?_; intro w4 cnt hr4 hg4 hs4)
  go_frame
  have hw1l := HG0.out.size
  have HG4 : Hid (Grew w1 w4) := Lib.hid ((Grew.refl w1).grown hg4 (fun k hk => by cases hk))
  have H0 : Hid (LsAt w1 b w1.heap.size c L bh (.int .i64 (-1)) w4) := Lib.hid ⟨_, cnt, -1, rfl, HG4.out, hr4, Or.inl ⟨rfl, fun x _ hx hl => by simp [hx] at hl⟩⟩
  have hrb : b < w1.heap.size := (HS.out.grew HG0.out).lt
  have hrg : w1.heap.size ≤ w1.heap.size := Nat.le_refl _
  clear hr4 hg4 hs4 HG4
  generalize hrr : w1.heap.size = r at *
  go_loopw [5] (fun x wr => LsAt w1 b r c L bh x wr) (fun _ wr => cntOf wr b r)
  case atStart => exact H0.out
  case round =>
    obtain ⟨left, cnt2, out, rfl, hg, hR, hP⟩ := hrel
    have HG := Lib.hid hg
    have HR := Lib.hid hR
    have HP := Lib.hid hP
    have hcnt := hR.left_eq
    clear hg hR hP H0
    go_wp2_with (at_next; refine wpList_qnext rfl _ rfl r left cnt2 rfl HR.out ?_ ?_)
    · intro hdone
      have hfn : out = fin := HFin.out out (by
        rcases HP.out with ⟨h1, h2⟩ | ⟨h1, h2, h3, h4⟩
        · exact Or.inl ⟨h1, fun x hx hxL _ => h2 x hx hxL (hdone x hx)⟩
        · exact Or.inr ⟨h1, h2, h3, fun x hx hxL _ hb => h4 x hx hxL (hdone x hx) hb⟩)
      clear hdone hcnt
      subst hfn
      go_wp2
      go_ret
      exact ⟨rfl, HG0.out.trans HG.out⟩
    · intro x w2 cnt3 hwx hlx hxL hr2 hlt hg2 hs2 hen
      obtain ⟨t, rfl, htn⟩ := HL.out x hxL
      have HG5 := Lib.hid (grew_map HG.out (by rw [hrr]; exact Nat.le_refl _) hg2)
      have HR5 := Lib.hid hr2
      have HPut := Lib.hid (lst_put HP.out hxL (by omega))
      have hcl : cntOf w2 b r = cnt3 := hr2.left_eq
      have hlt2 : cnt3 < cntOf wr b r := by rw [hcnt]; exact hlt
      clear hr2 hg2 hs2 hlx hxL HP HR hcnt hlt hcl
      have HBt := Lib.hid (HBh2.out t htn)
      unfold plC at HBt
      obtain ⟨b0, d0, d1, b1, d3, d4, d5⟩ := boxP (HB0.out.grew HG5.out)
      rcases hb : bh (t : Int) with _ | _
      · rw [hb] at HBt HPut
        have HPn := Lib.hid (HPut.out.2 (Or.inr rfl))
        clear HPut hb
        by_cases h1 : out < 0
        · have e1 : decide (out < 0) = true := decide_eq_true h1
          go_wp2_with (go_at_call 199; (with_reducible refine (HBt.out _ (HG0.out.trans HG5.out)).grows.mono ?_); rintro e w6 ⟨rfl, hg6⟩; have HG6 := Lib.hid (HG5.out.trans hg6); have HR6 := Lib.hid (HR5.out.grew hg6); clear hg6)
          exact ⟨⟨_, cnt3, out, rfl, HG6.out, HR6.out, HPn.out⟩, by rw [HR6.out.left_eq]; exact hlt2⟩
        · have e1 : decide (out < 0) = false := decide_eq_false h1
          have h1' : 0 ≤ out := by omega
          by_cases h2 : (t : Int) < out
          · have e2 : decide ((t : Int) < out) = true := decide_eq_true h2
            go_wp2_with (go_at_call 199; (with_reducible refine (HBt.out _ (HG0.out.trans HG5.out)).grows.mono ?_); rintro e w6 ⟨rfl, hg6⟩; have HG6 := Lib.hid (HG5.out.trans hg6); have HR6 := Lib.hid (HR5.out.grew hg6); clear hg6)
            exact ⟨⟨_, cnt3, out, rfl, HG6.out, HR6.out, HPn.out⟩, by rw [HR6.out.left_eq]; exact hlt2⟩
          · have e2 : decide ((t : Int) < out) = false := decide_eq_false h2
            have h2' : out ≤ (t : Int) := by omega
            clear h1 h2
            go_wp2
            exact ⟨⟨_, cnt3, out, rfl, HG5.out, HR5.out, HPn.out⟩, by rw [HR5.out.left_eq]; exact hlt2⟩
      · rw [hb] at HBt HPut
        clear hb
        by_cases h1 : out < 0
        · have e1 : decide (out < 0) = true := decide_eq_true h1
          have HPn := Lib.hid (HPut.out.1 (Or.inl h1) rfl)
          clear HPut
          go_wp2_with (go_at_call 199; (with_reducible refine (HBt.out _ (HG0.out.trans HG5.out)).grows.mono ?_); rintro e w6 ⟨rfl, hg6⟩; have HG6 := Lib.hid (HG5.out.trans hg6); have HR6 := Lib.hid (HR5.out.grew hg6); clear hg6)
          exact ⟨⟨_, cnt3, (t : Int), rfl, HG6.out, HR6.out, HPn.out⟩, by rw [HR6.out.left_eq]; exact hlt2⟩
        · have e1 : decide (out < 0) = false := decide_eq_false h1
          have h1' : 0 ≤ out := by omega
          by_cases h2 : (t : Int) < out
          · have e2 : decide ((t : Int) < out) = true := decide_eq_true h2
            have HPn := Lib.hid (HPut.out.1 (Or.inr h2) rfl)
            clear HPut
            go_wp2_with (go_at_call 199; (with_reducible refine (HBt.out _ (HG0.out.trans HG5.out)).grows.mono ?_); rintro e w6 ⟨rfl, hg6⟩; have HG6 := Lib.hid (HG5.out.trans hg6); have HR6 := Lib.hid (HR5.out.grew hg6); clear hg6)
            exact ⟨⟨_, cnt3, (t : Int), rfl, HG6.out, HR6.out, HPn.out⟩, by rw [HR6.out.left_eq]; exact hlt2⟩
          · have e2 : decide ((t : Int) < out) = false := decide_eq_false h2
            have h2' : out ≤ (t : Int) := by omega
            have HPn := Lib.hid (HPut.out.2 (Or.inl (by omega)))
            clear HPut h1 h2
            go_wp2
            exact ⟨⟨_, cnt3, out, rfl, HG5.out, HR5.out, HPn.out⟩, by rw [HR5.out.left_eq]; exact hlt2⟩
end Go.Proofs.Ytfdjnhnchibejaa
