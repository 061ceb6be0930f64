/- Layer 5: the document's Without of tables. Condition: no more than a million tables, and rows in each. -/
import Derived.Test.YtcokhgomibimcaaTab13
namespace Go.Proofs.Ytcokhgomibimcaa
open Go.RowKit
attribute [local go_sem] more_cell more_frozen more_more more_setCell more_of_drew more_of_drewN lt_more le_more past_cell past_cell2 past_frozen past_frozen2 past_setCell past_setCell2 mid_cell mid_frozen mid_setCell
attribute [local go_sem ↓] Go.wp_at_zero Go.wp_at_succ

/-- A table without one of its rows; tables, of which the one at z is so. -/
def cutT (t : Tb) (i : Int) : Tb := ⟨t.name, t.cols, withoutI t.rows i⟩
def outW (l : List Tb) (z i : Int) (k : Nat) : Tb := if (k : Int) = z then cutT (l.getD k default) i else l.getD k default
def withoutT (l : List Tb) (z i : Int) : List Tb := (List.range l.length).map (outW l z i)
def partT (l : List Tb) (z i : Int) (j : Nat) : List Tb := (List.range j).map (outW l z i)
theorem partT_len (l : List Tb) (z i : Int) (j : Nat) : (partT l z i j).length = j := by simp [partT]
theorem partT_snoc (l : List Tb) (z i : Int) (j : Nat) : partT l z i (j + 1) = partT l z i j ++ [outW l z i j] := by simp [partT, List.range_succ]
/-- Tables are handed back. -/
def TabsF (u w : World) (l : List Tb) (e : Ending) (w' : World) : Prop := ∃ A k, e = .returned (.slice A l.length k) ∧ l.length ≤ k ∧ Grew w w' ∧ TbsR (MRow u w') A l
theorem tbR_one {R : Rw} {x : Tb} {cs : List Value} (h : TbR R x cs) : ∀ u ∈ cs, u.oneCell' = true := by
  obtain ⟨A, k, B, j, rfl, _⟩ := h
  intro u hu
  simp at hu
  rcases hu with rfl | rfl | rfl <;> rfl
theorem TbR.grewM {u w w' : World} {x : Tb} {cs : List Value} (h : TbR (MRow u w) x cs) (g : Grew w w') : TbR (MRow u w') x cs := h.imp fun _ _ _ hm => hm.grew g
/-- What has been gathered in a row of tables of one's own. -/
def GatT (u w : World) (L : List Tb) (v : Value) (wr : World) : Prop :=
  ∃ (A : Option Addr) (c : Nat) (css : List (List Value)), v = .slice A L.length c ∧ Grew w wr ∧ wr.ownsRow w.heap.size 80 3 (.slice A L.length c) L.length css.flatten ∧ ListR (TbR (MRow u wr)) 3 L css
theorem GatT.nil (u w : World) : GatT u w [] (.slice none 0 0) w := ⟨none, 0, [], rfl, Grew.refl w, own_none w _ _ 3, ListR.nil⟩
theorem GatT.grew {u w wr w' : World} {L : List Tb} {v : Value} (h : GatT u w L v wr) (g : Grew wr w') : GatT u w L v w' := by
  obtain ⟨A, c, css, rfl, hg, ho, hl⟩ := h
  obtain ⟨x, rfl⟩ := g
  exact ⟨A, c, css, rfl, hg.more x, own_more ho x, hl.map fun t cs ht => ht.grewM ⟨x, rfl⟩⟩
theorem GatT.done {u w wr : World} {L : List Tb} {v : Value} (h : GatT u w L v wr) (g : Grew u w) : TabsF u w L (.returned v) wr := by
  obtain ⟨A, c, css, rfl, hg, ho, hl⟩ := h
  exact ⟨A, c, rfl, own_cap' ho, hg, css, hl, MRow.own (own_le ho g.size)⟩
/-- Behind an append of one table. -/
theorem GatT.snoc {u w wr w' : World} {L : List Tb} {A A' : Option Addr} {c c' : Nat} {css : List (List Value)} {x : Tb} {cs : List Value}
    (ho : wr.ownsRow w.heap.size 80 3 (.slice A L.length c) L.length css.flatten) (hl : ListR (TbR (MRow u wr)) 3 L css) (hx : TbR (MRow u wr) x cs)
    (ho' : w'.ownsRow w.heap.size 80 3 (.slice A' (L.length + 1) c') (L.length + 1) (css.flatten ++ cs)) (hg : Grew w w') (hb : wr.grownBy w' (Value.slice A L.length c).ownBlock) :
    GatT u w (L ++ [x]) (.slice A' (L.length + 1) c') w' := by
  have H : ∀ e A xs, e ≠ 80 → MRow u wr e A xs → MRow u w' e A xs := fun e A xs hne hm => hm.grown ho hne hb
  have hlen : cs.length = 3 := by obtain ⟨_, _, _, _, rfl, _⟩ := hx; rfl
  refine ⟨A', c', css ++ [cs], by simp, hg, ?_, (hl.map fun t ds ht => ht.impT H).snoc (hx.impT H) hlen⟩
  rw [List.length_append, List.length_singleton, List.flatten_append]
  simpa using ho'
theorem own_aside {w w' : World} {base : Nat} {e : TypeId} {size : Nat} {v : Value} {n : Nat} {xs : List Value} {g : Nat} (h : w.ownsRow base e size v n xs) (k : Turns w w' g) (hg : ∀ q, v.ownBlock = some q → q ≠ g) : w'.ownsRow base e size v n xs := by
  have hlt := own_lt h
  obtain ⟨hl, h⟩ := h
  refine ⟨hl, ?_⟩
  rcases h with h | ⟨q, cap, cur, rfl, hb, hh, hq⟩
  · exact Or.inl h
  · exact Or.inr ⟨q, cap, cur, rfl, hb, by rw [k.block q (hlt q rfl) (hg q rfl)]; exact hh, hq⟩
theorem MRow.set {u w : World} {e e' : TypeId} {A : Option Addr} {xs : List Value} {g : Nat} {cs : Array Value} (h : MRow u w e A xs) (hb : Blok w g e' cs) (hne : e ≠ e') (i : Nat) (v : Value) : MRow u (w.setCell ⟨g, i, none⟩ v) e A xs :=
  h.imp id fun h => h.set hb hne i v
def RWoAt (u w : World) (l : List Tb) (z i : Int) (v d p : Value) (wr : World) : Prop :=
  ∃ j : Nat, j ≤ l.length ∧ p = .int .i64 j ∧ d = .bool (decide (0 ≤ z ∧ z < j)) ∧ GatT u w (partT l z i j) v wr
theorem outW_in {l : List Tb} {z i : Int} {j : Nat} (h : j < l.length) (hz : (j : Int) = z) : outW l z i j = cutT l[j] i := by
  unfold outW
  rw [if_pos hz, getD_of h]
theorem outW_out {l : List Tb} {z i : Int} {j : Nat} (h : j < l.length) (hz : ¬ (j : Int) = z) : outW l z i j = l[j] := by
  unfold outW
  rw [if_neg hz, getD_of h]
set_option maxHeartbeats 2000000 in
set_option maxRecDepth 100000 in
theorem rwithoutT_any (l : List Tb) (m : Nat) (hm : l.length = m) (hm1 : m ≤ 1000000) (hro : ∀ y ∈ l, y.rows.length ≤ 1000000) (n : ByteArray) (z : Int) (hz : Idx (l.map Tb.name) n z) (i : Int) (A : Option Addr) (k : Nat) (u w : World) (g : Grew u w) (ra : TbsR (PRow u) A l) :
    Calls Try.prog 67 #[.slice A m k, .string n, .int .i64 i] w (TabsF u w (withoutT l z i)) := by
  have RA := Lib.hid ra
  have HM := Lib.hid hm
  have GU := Lib.hid g
  have HZ := Lib.hid hz
  have HRo := Lib.hid hro
  clear ra hm g hz hro
  go_enter Try.func67, Try.ntmps67
  go_wp2
  go_loopw [7, 8, 9] (fun v d p wr => RWoAt u w l z i v d p wr) (fun _ _ p _ => m - (intOf p).toNat)
  case atStart => exact ⟨0, Nat.zero_le _, rfl, by rw [decide_eq_false (by omega)], GatT.nil u w⟩
  case round =>
    obtain ⟨j, hj, rfl, rfl, hgt⟩ := hrel
    rw [HM.out] at hj
    have HGT := Lib.hid hgt
    clear hgt
    by_cases h : j < m
    · have h1 : j < l.length := by rw [HM.out]; exact h
      obtain ⟨b, o, C, k2, B, j2, rfl, hk2, hj2, hcl, hrw, ⟨hb', a0', a1', a2'⟩⟩ := tbsR_at RA.out h1
      obtain ⟨A2, c2, css, hv, hg, ho, hls⟩ := HGT.out
      have HG := Lib.hid hg
      have hgu := GU.out.trans hg
      have hb : b < wr.heap.size := Nat.lt_of_lt_of_le hb' hgu.size
      have a0 := (hgu.cell (a := ⟨b, o + j * 3, none⟩) hb').trans a0'
      have a1 := (hgu.cell (a := ⟨b, o + j * 3 + 1, none⟩) hb').trans a1'
      have a2 := (hgu.cell (a := ⟨b, o + j * 3 + 2, none⟩) hb').trans a2'
      subst hv
      have HO := Lib.hid ho
      have HL := Lib.hid hls
      have hpl : (partT l z i j).length ≤ 1000000 := by rw [partT_len]; omega
      have HSn := Lib.hid (partT_snoc l z i j)
      have hte : l[j].name.toList == n.toList → l[j].name = n := fun e => bytes_toList.1 e
      have HFirst : Hid ((j : Int) = z → l[j].name = n) := Lib.hid fun e => by
        rcases HZ.out with ⟨q, rfl, hq, h1, _⟩ | ⟨rfl, _⟩
        · have : j = q := by omega
          subst this; simpa using h1
        · omega
      have HElse : Hid (¬ (j : Int) = z → l[j].name = n → 0 ≤ z ∧ z < j) := Lib.hid fun hne e => by
        rcases HZ.out with ⟨q, rfl, hq, h1', h2⟩ | ⟨rfl, h2⟩
        · refine ⟨by omega, ?_⟩
          rcases Nat.lt_trichotomy q j with h3 | h3 | h3
          · omega
          · omega
          · exact absurd e (by simpa using h2 j h3)
        · exact absurd e (h2 _ (List.mem_map.2 ⟨l[j], List.getElem_mem h1, rfl⟩))
      have HIn : Hid ((j : Int) = z → outW l z i j = cutT l[j] i) := Lib.hid fun e => outW_in h1 e
      have HOut : Hid (¬ (j : Int) = z → outW l z i j = l[j]) := Lib.hid fun e => outW_out h1 e
      have hrl := HRo.out _ (List.getElem_mem h1)
      have HRw : Hid (∀ W, Grew w W → Calls Try.prog 131 #[.slice B l[j].rows.length j2, .int .i64 i] W (RowsF u W (withoutI l[j].rows i))) := Lib.hid fun W hW => rwithout_any _ _ rfl hrl i B j2 u W (GU.out.trans hW) hrw
      have HTO : Hid (TbR (PRow u) l[j] [.string l[j].name, .slice C l[j].cols.length k2, .slice B l[j].rows.length j2]) := Lib.hid ⟨C, k2, B, j2, rfl, hk2, hj2, hcl, hrw⟩
      have HCl : Hid (ClsR (PRow u) C l[j].cols) := Lib.hid hcl
      clear hb' a0' a1' a2' hcl hrw hg ho hls hgu hte HGT
      obtain ⟨ow, how⟩ : ∃ ow, outW l z i j = ow := ⟨_, rfl⟩
      rw [how] at HSn HIn HOut
      clear how
      generalize partT l z i j = L at *
      generalize l[j] = t at *
      obtain ⟨name, cols, rows⟩ := t
      simp only at *
      by_cases hjz : (j : Int) = z
      · have e1 := bytes_toList.2 (HFirst.out hjz)
        have hd : decide (0 ≤ z ∧ z < (j : Int)) = false := decide_eq_false (by omega)
        rw [hd]
        have HD2 : Hid (decide (0 ≤ z ∧ z < ((j + 1 : Nat) : Int)) = true) := Lib.hid (decide_eq_true (by omega))
        have HW := Lib.hid (HIn.out hjz)
        clear hjz hd HFirst HElse HIn HOut
        go_wp2_with fail
        refine (HRw.out _ (HG.out.alloc _)).mono ?_
        rintro e w2 ⟨A3, c3, rfl, hc3, hg2, hr3⟩
        have b2 := (Blok.new wr 80 #[.string name, .slice C cols.length k2, .slice B rows.length j2] _ rfl).grew hg2
        have d0 := b2.cell 0
        have d1 := b2.cell 1
        have d2 := b2.cell 2
        have dl := b2.lt
        have y2 := b2.thaw 2
        simp at d0 d1 d2
        have HB2 := Lib.hid b2
        have HGw : Hid (Grew wr w2) := Lib.hid (((Grew.refl wr).alloc _).trans hg2)
        have HR3 := Lib.hid hr3
        have hset : ∀ e A xs, e ≠ 80 → MRow u w2 e A xs → MRow u ((w2.setCell ⟨wr.heap.size, 2, none⟩ (.slice A3 (withoutI rows i).length c3)).alloc (.cells #[.string name, .slice C cols.length k2, .slice A3 (withoutI rows i).length c3] 80)) e A xs := fun e A xs hne hm => (hm.set b2 hne _ _).grew ((Grew.refl _).alloc _)
        have HO3 : Hid (World.ownsRow ((w2.setCell ⟨wr.heap.size, 2, none⟩ (.slice A3 (withoutI rows i).length c3)).alloc (.cells #[.string name, .slice C cols.length k2, .slice A3 (withoutI rows i).length c3] 80)) w.heap.size 80 3 (.slice A2 L.length c2) L.length css.flatten) := Lib.hid (by
          obtain ⟨x, hx⟩ := HGw.out
          refine own_alloc (own_aside (g := wr.heap.size) (by rw [hx]; exact own_more HO.out x) ((Turns.refl _ _).set _ _) fun q hq => ?_) _
          have := own_lt HO.out q hq
          omega)
        have HL3 := Lib.hid (HL.out.map fun t cs (ht : TbR (MRow u wr) t cs) => TbR.impT hset (ht.grewM HGw.out))
        have HX3 : Hid (TbR (MRow u ((w2.setCell ⟨wr.heap.size, 2, none⟩ (.slice A3 (withoutI rows i).length c3)).alloc (.cells #[.string name, .slice C cols.length k2, .slice A3 (withoutI rows i).length c3] 80))) ow [.string name, .slice C cols.length k2, .slice A3 (withoutI rows i).length c3]) := Lib.hid (by
          rw [HW.out]
          exact ⟨C, k2, A3, c3, rfl, hk2, hc3, HCl.out.imp fun _ _ _ hx => MRow.old hx, hr3.impT hset⟩)
        have HG3 : Hid (Grew w ((w2.setCell ⟨wr.heap.size, 2, none⟩ (.slice A3 (withoutI rows i).length c3)).alloc (.cells #[.string name, .slice C cols.length k2, .slice A3 (withoutI rows i).length c3] 80))) := Lib.hid (Grew.alloc (Grew.setCell (HG.out.trans HGw.out) HG.out.size _) _)
        have HOne : Hid (∀ x ∈ [Value.string name, .slice C cols.length k2, .slice A3 (withoutI rows i).length c3], x.oneCell' = true) := Lib.hid (tbR_one HX3.out)
        clear b2 hg2 hr3 HRw a0 a1 a2 hset HW
        generalize (withoutI rows i).length = rl at *
        go_wp2_with (at_builtin; refine wpList_apps rfl _ _ 73 80 3 rfl w (.agg #[.string ⟨#[]⟩, .slice none 0 0, .slice none 0 0]) 64 Try.underlying73 infoTb rfl (by decide) (by decide) _ L.length _ rfl HO3.out _ 1 1 [.string name, .slice C cols.length k2, .slice A3 rl c3] rfl rfl (row_new _ _ _ _ (by simp [World.setCell])) HOne.out (by omega) HG3.out ?_; intro A' c' w' ho' _ hg' hgb _; have HGT := Lib.hid (GatT.snoc HO3.out HL3.out HX3.out ho' hg' hgb); clear ho' hg' hgb)
        exact ⟨⟨j + 1, by rw [HM.out]; omega, by go_num, by rw [HD2.out], by rw [HSn.out]; exact HGT.out⟩, by simp only [intOf]; omega⟩
      · obtain ⟨dn, hdn⟩ : ∃ dn, decide (0 ≤ z ∧ z < (j : Int)) = dn := ⟨_, rfl⟩
        have HD2 : Hid (decide (0 ≤ z ∧ z < ((j + 1 : Nat) : Int)) = dn) := Lib.hid (by rw [← hdn]; exact decide_eq_decide.2 (by omega))
        obtain ⟨te, hte⟩ : ∃ te, (name.toList == n.toList) = te := ⟨_, rfl⟩
        have HTD : Hid (te = true → dn = true) := Lib.hid fun e => by
          rw [← hdn]
          exact decide_eq_true (HElse.out hjz (bytes_toList.1 (by rw [hte]; exact e)))
        rw [hdn]
        have HW := Lib.hid (HOut.out hjz)
        have HO3 : Hid (World.ownsRow ((wr.alloc (.cells #[.string name, .slice C cols.length k2, .slice B rows.length j2] 80)).alloc (.cells #[.string name, .slice C cols.length k2, .slice B rows.length j2] 80)) w.heap.size 80 3 (.slice A2 L.length c2) L.length css.flatten) := Lib.hid (own_alloc (own_alloc HO.out _) _)
        have HL3 := Lib.hid (HL.out.map fun t cs (ht : TbR (MRow u wr) t cs) => ht.grewM (((Grew.refl wr).alloc (.cells #[.string name, .slice C cols.length k2, .slice B rows.length j2] 80)).alloc (.cells #[.string name, .slice C cols.length k2, .slice B rows.length j2] 80)))
        have HX3 : Hid (TbR (MRow u ((wr.alloc (.cells #[.string name, .slice C cols.length k2, .slice B rows.length j2] 80)).alloc (.cells #[.string name, .slice C cols.length k2, .slice B rows.length j2] 80))) ow [.string name, .slice C cols.length k2, .slice B rows.length j2]) := Lib.hid (by
          rw [HW.out]
          exact HTO.out.imp fun _ _ _ hx => MRow.old hx)
        have HG3 : Hid (Grew w ((wr.alloc (.cells #[.string name, .slice C cols.length k2, .slice B rows.length j2] 80)).alloc (.cells #[.string name, .slice C cols.length k2, .slice B rows.length j2] 80))) := Lib.hid ((HG.out.alloc _).alloc _)
        have HOne : Hid (∀ x ∈ [Value.string name, .slice C cols.length k2, .slice B rows.length j2], x.oneCell' = true) := Lib.hid (tbR_one HX3.out)
        clear hdn HW HFirst HElse HIn HOut HRw hjz
        cases te
        · go_wp2_with (at_builtin; refine wpList_apps rfl _ _ 73 80 3 rfl w (.agg #[.string ⟨#[]⟩, .slice none 0 0, .slice none 0 0]) 64 Try.underlying73 infoTb rfl (by decide) (by decide) _ L.length _ rfl HO3.out _ 1 1 [.string name, .slice C cols.length k2, .slice B rows.length j2] rfl rfl (row_new _ _ _ _ (by simp)) HOne.out (by omega) HG3.out ?_; intro A' c' w' ho' _ hg' hgb _; have HGT := Lib.hid (GatT.snoc HO3.out HL3.out HX3.out ho' hg' hgb); clear ho' hg' hgb)
          exact ⟨⟨j + 1, by rw [HM.out]; omega, by go_num, by rw [HD2.out], by rw [HSn.out]; exact HGT.out⟩, by simp only [intOf]; omega⟩
        · obtain rfl := HTD.out rfl
          go_wp2_with (at_builtin; refine wpList_apps rfl _ _ 73 80 3 rfl w (.agg #[.string ⟨#[]⟩, .slice none 0 0, .slice none 0 0]) 64 Try.underlying73 infoTb rfl (by decide) (by decide) _ L.length _ rfl HO3.out _ 1 1 [.string name, .slice C cols.length k2, .slice B rows.length j2] rfl rfl (row_new _ _ _ _ (by simp)) HOne.out (by omega) HG3.out ?_; intro A' c' w' ho' _ hg' hgb _; have HGT := Lib.hid (GatT.snoc HO3.out HL3.out HX3.out ho' hg' hgb); clear ho' hg' hgb)
          exact ⟨⟨j + 1, by rw [HM.out]; omega, by go_num, by rw [HD2.out], by rw [HSn.out]; exact HGT.out⟩, by simp only [intOf]; omega⟩
    · obtain rfl : j = m := by omega
      have hR := HGT.out.done GU.out
      have hP : partT l z i j = withoutT l z i := by unfold partT withoutT; rw [HM.out]
      rw [hP] at hR
      obtain ⟨A2, c2, css, rfl, _⟩ := HGT.out
      have HR := Lib.hid hR
      clear hR HGT hP
      generalize decide (0 ≤ z ∧ z < (j : Int)) = dn at *
      go_wp2
      go_ret
      exact HR.out
end Go.Proofs.Ytcokhgomibimcaa
