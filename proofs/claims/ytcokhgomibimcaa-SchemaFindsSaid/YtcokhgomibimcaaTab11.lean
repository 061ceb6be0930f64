/- Layer 5: schema.own, Find, Col, Size. Condition: no more than a million rows. -/
import Derived.Test.YtcokhgomibimcaaTab10
namespace Go.Proofs.Ytcokhgomibimcaa
open Go.RowKit
attribute [local go_sem] more_cell more_frozen more_more more_setCell more_of_drew more_of_drewN lt_more le_more past_cell past_cell2 past_frozen past_frozen2 past_setCell past_setCell2 mid_cell mid_frozen mid_setCell
attribute [local go_sem ↓] Go.wp_at_zero Go.wp_at_succ

theorem TRow.set {B : Nat} {w : World} {e e' : TypeId} {A : Option Addr} {xs : List Value} {g : Nat} {cs : Array Value} (h : TRow B w e A xs) (hb : Blok w g e' cs) (hne : e ≠ e') (i : Nat) (v : Value) : TRow B (w.setCell ⟨g, i, none⟩ v) e A xs :=
  h.apart ((Turns.refl w g).set i v) hb hne
theorem neRT : 146 ≠ 80 := by decide
theorem neVT : 51 ≠ 80 := by decide
theorem neCT : 88 ≠ 80 := by decide
theorem VlsR.impT {R R' : Rw} (H : ∀ e A xs, e ≠ 80 → R e A xs → R' e A xs) {A : Option Addr} {l : List Vl} (h : VlsR R A l) : VlsR R' A l := by
  obtain ⟨css, h1, h2⟩ := h
  exact ⟨css, h1, H _ _ _ neVT h2⟩
theorem RwR.impT {R R' : Rw} (H : ∀ e A xs, e ≠ 80 → R e A xs → R' e A xs) {x : List Vl} {cs : List Value} (h : RwR R x cs) : RwR R' x cs := by
  obtain ⟨A, k, e, hk, hx⟩ := h
  exact ⟨A, k, e, hk, hx.impT H⟩
theorem RwsR.impT {R R' : Rw} (H : ∀ e A xs, e ≠ 80 → R e A xs → R' e A xs) {A : Option Addr} {l : List (List Vl)} (h : RwsR R A l) : RwsR R' A l := by
  obtain ⟨css, h1, h2⟩ := h
  exact ⟨css, h1.map fun x cs hx => hx.impT H, H _ _ _ neRT h2⟩
theorem ClsR.impT {R R' : Rw} (H : ∀ e A xs, e ≠ 80 → R e A xs → R' e A xs) {A : Option Addr} {l : List Cl} (h : ClsR R A l) : ClsR R' A l := by
  obtain ⟨css, h1, h2⟩ := h
  exact ⟨css, h1, H _ _ _ neCT h2⟩
theorem TbR.impT {R R' : Rw} (H : ∀ e A xs, e ≠ 80 → R e A xs → R' e A xs) {x : Tb} {cs : List Value} (h : TbR R x cs) : TbR R' x cs := by
  obtain ⟨A, k, B, j, e, hk, hj, h1, h2⟩ := h
  exact ⟨A, k, B, j, e, hk, hj, h1.impT H, h2.impT H⟩
/-- A table with a list of rows of its own. -/
def OwnF (u w : World) (x : Tb) (C : Option Addr) (k2 : Nat) (e : Ending) (w' : World) : Prop := ∃ B j, e = .returned (tbV x C k2 B j) ∧ x.rows.length ≤ j ∧ Grew w w' ∧ RwsR (MRow u w') B x.rows
set_option maxHeartbeats 1000000 in
theorem own_any (x : Tb) (C B : Option Addr) (k2 j2 : Nat) (hx : x.rows.length ≤ 1000000) (u w : World) (g : Grew u w) (ra : RwsR (PRow u) B x.rows) :
    Calls Try.prog 127 #[tbV x C k2 B j2] w (OwnF u w x C k2) := by
  obtain ⟨name, cols, rows⟩ := x
  obtain ⟨css, h1, h2⟩ := ra
  simp only at h1 h2 hx
  have hlen : css.flatten.length = rows.length := by rw [h1.flat, Nat.mul_one]
  have hone : ∀ u ∈ css.flatten, u.oneCell' = true := h1.one _ fun x cs hx => rwR_one hx
  have HC : Hid (∀ W, Grew w W → Calls Try.prog 158 #[.slice B rows.length j2] W (MineF W 146 rows.length css.flatten)) := Lib.hid fun W hW => clone_rows css.flatten _ hlen hx hone B j2 W (Row.grew h2 (g.trans hW))
  have H1 := Lib.hid h1
  clear h1 h2 hlen hone
  unfold tbV
  simp only
  go_enter Try.func127, Try.ntmps127
  go_wp2_with fail
  refine (HC.out _ (((Grew.refl w).alloc _).alloc _)).mono ?_
  rintro e w2 ⟨A2, k3, rfl, hk3, hg2, hr2⟩
  have b1 : Blok w2 w.heap.size 80 #[.string name, .slice C cols.length k2, .slice B rows.length j2] := ((Blok.new w _ _ _ rfl).alloc _).grew hg2
  have b2 : Blok w2 (w.heap.size + 1) 80 #[.string ⟨#[]⟩, .slice none 0 0, .slice none 0 0] := (Blok.new _ _ _ _ (by simp)).grew hg2
  have d0 := b1.cell 0
  have d1 := b1.cell 1
  have d2 := b1.cell 2
  have dl := b1.lt
  have y2 := b1.thaw 2
  have e0 := b2.cell 0
  have e1 := b2.cell 1
  have e2 := b2.cell 2
  have el := b2.lt
  have z0 := b2.thaw 0
  have z1 := b2.thaw 1
  have z2 := b2.thaw 2
  simp at d0 d1 d2 e0 e1 e2
  have HG2 : Hid (Grew w w2) := Lib.hid ((((Grew.refl w).alloc _).alloc _).trans hg2)
  have HB1 := Lib.hid b1
  have HB2 := Lib.hid b2
  have HR2 : Hid (TRow u.heap.size w2 146 A2 css.flatten) := Lib.hid (hr2.low (by have := g.size; simp; omega))
  clear b1 b2 hg2 hr2 HC
  go_wp2
  have bf := (((HB2.out.far (p := ⟨w.heap.size, 2, none⟩) (by simp) (.slice A2 rows.length k3)).set 0 (.string name)).set 1 (.slice C cols.length k2)).set 2 (.slice A2 rows.length k3)
  have q0 := bf.cell 0
  have q1 := bf.cell 1
  have q2 := bf.cell 2
  simp at q0 q1 q2
  refine bodyPost_ret (v := .agg #[.string name, .slice C cols.length k2, .slice A2 rows.length k3]) (by simp [results, Try.results127, go_sem, q0, q1, q2]) rfl ⟨A2, k3, rfl, hk3, ?_, css, H1.out.map fun x cs hx => hx.old, Or.inr ?_⟩
  · exact Grew.setCell (Grew.setCell (Grew.setCell (Grew.setCell HG2.out (Nat.le_refl _) _) (Nat.le_succ _) _) (Nat.le_succ _) _) (Nat.le_succ _) _
  · have b2 := HB2.out.far (p := ⟨w.heap.size, 2, none⟩) (by simp) (.slice A2 rows.length k3)
    exact TRow.set (TRow.set (TRow.set (TRow.set HR2.out HB1.out neRT _ _) b2 neRT _ _) (b2.set _ _) neRT _ _) ((b2.set _ _).set _ _) neRT _ _
/-- A table, found by its name; or none. -/
def FindF (w : World) (x : Tb) (t : Bool) (e : Ending) (w' : World) : Prop := ∃ C k B j, e = .returned (.tuple #[tbV x C k B j, .bool t]) ∧ Grew w w' ∧ TbR (PRow w') x [.string x.name, .slice C x.cols.length k, .slice B x.rows.length j]
set_option maxHeartbeats 1000000 in
theorem find_any (l : List Tb) (m : Nat) (hm : l.length = m) (hs : m ≤ maxLen) (hro : ∀ y ∈ l, y.rows.length ≤ 1000000) (n : ByteArray) (t : Bool) (ht : t = true ↔ ∃ y ∈ l, y.name = n) (A : Option Addr) (k : Nat) (w : World) (ra : TbsR (PRow w) A l) :
    Calls Try.prog 58 #[.slice A m k, .string n] w (FindF w (findT l n) t) := by
  have HNm := Lib.hid (fun (W : World) (hW : Grew w W) => named_any l m hm hs n A k W (ra.grew hW))
  have RA := Lib.hid ra
  have HM := Lib.hid hm
  have HRo := Lib.hid hro
  have HT := Lib.hid ht
  obtain ⟨F, hF⟩ : ∃ F, findT l n = F := ⟨_, rfl⟩
  have HF := Lib.hid hF
  rw [hF]
  clear ra hm hro ht hF
  unfold maxLen at hs
  go_enter Try.func58, Try.ntmps58
  go_wp2_with fail
  refine (HNm.out _ ((Grew.refl w).alloc _)).mono ?_
  rintro e w2 ⟨z, rfl, hz, hg2⟩
  have b2 : Blok w2 w.heap.size 80 #[.string ⟨#[]⟩, .slice none 0 0, .slice none 0 0] := (Blok.new w _ _ _ rfl).grew hg2
  have e0 := b2.cell 0
  have e1 := b2.cell 1
  have e2 := b2.cell 2
  have el := b2.lt
  have z0 := b2.thaw 0
  have z1 := b2.thaw 1
  have z2 := b2.thaw 2
  simp at e0 e1 e2
  have HG2 : Hid (Grew w w2) := Lib.hid (((Grew.refl w).alloc _).trans hg2)
  have HB2 := Lib.hid b2
  clear b2 hg2 HNm
  rcases hz with ⟨q, rfl, hq, h1, h2⟩ | ⟨rfl, h1⟩
  · have hql : q < l.length := by simpa using hq
    have h1' : l[q].name = n := by simpa using h1
    have h2' : ∀ j (hj : j < l.length), j < q → ¬ l[j].name = n := fun j hj hji => by simpa using h2 j hji
    have hf : F = l[q] := by rw [← HF.out]; exact findT_at hql h1' h2'
    have htt : t = true := HT.out.2 ⟨_, List.getElem_mem hql, h1'⟩
    subst htt
    have hqm : q < m := by rw [← HM.out]; exact hql
    have hq0 : 0 ≤ (q : Int) := by omega
    obtain ⟨b, o, C, k2, B, j2, rfl, hk2, hj2, hcl, hrw, ⟨hb', a0', a1', a2'⟩⟩ := tbsR_at RA.out hql
    have hb : b < w2.heap.size := Nat.lt_of_lt_of_le hb' HG2.out.size
    have a0 := (HG2.out.cell (a := ⟨b, o + q * 3, none⟩) hb').trans a0'
    have a1 := (HG2.out.cell (a := ⟨b, o + q * 3 + 1, none⟩) hb').trans a1'
    have a2 := (HG2.out.cell (a := ⟨b, o + q * 3 + 2, none⟩) hb').trans a2'
    clear a0' a1' a2' hb'
    have HO : Hid (Calls Try.prog 127 #[tbV l[q] C k2 B j2] w2 (OwnF w w2 l[q] C k2)) := Lib.hid (own_any l[q] C B k2 j2 (HRo.out _ (List.getElem_mem hql)) w w2 HG2.out hrw)
    have HCl := Lib.hid hcl
    have HFe := Lib.hid hf
    clear hf h1 h2 h1' h2' hcl hrw HT HF HRo
    generalize l[q] = x at *
    obtain ⟨name, cols, rows⟩ := x
    unfold tbV at HO
    simp only at *
    go_wp2_with fail
    refine HO.out.mono ?_
    rintro e w3 ⟨B3, j3, rfl, hj3, hg3, hr3⟩
    have b3 := HB2.out.grew hg3
    have f0 := b3.cell 0
    have f1 := b3.cell 1
    have f2 := b3.cell 2
    have fl := b3.lt
    have y0 := b3.thaw 0
    have y1 := b3.thaw 1
    have y2 := b3.thaw 2
    simp at f0 f1 f2
    have HG3 : Hid (Grew w w3) := Lib.hid (HG2.out.trans hg3)
    have HB3 := Lib.hid b3
    have HR3 := Lib.hid hr3
    unfold tbV
    simp only at *
    clear b3 hg3 hr3 HO e0 e1 e2 el z0 z1 z2 HB2 a0 a1 a2
    go_wp2
    have bf := ((HB3.out.set 0 (.string name)).set 1 (.slice C cols.length k2)).set 2 (.slice B3 rows.length j3)
    have q0 := bf.cell 0
    have q1 := bf.cell 1
    have q2 := bf.cell 2
    simp at q0 q1 q2
    have hgf := Grew.setCell (Grew.setCell (Grew.setCell HG3.out (a := ⟨w.heap.size, 0, none⟩) (Nat.le_refl _) (.string name)) (a := ⟨w.heap.size, 1, none⟩) (Nat.le_refl _) (.slice C cols.length k2)) (a := ⟨w.heap.size, 2, none⟩) (Nat.le_refl _) (.slice B3 rows.length j3)
    refine bodyPost_ret (v := .tuple #[.agg #[.string name, .slice C cols.length k2, .slice B3 rows.length j3], .bool true]) (by simp [results, Try.results58, go_sem, q0, q1, q2]) rfl ⟨C, k2, B3, j3, by rw [HFe.out]; rfl, ?_, ?_⟩
    · exact hgf
    · rw [HFe.out]
      refine ⟨C, k2, B3, j3, rfl, hk2, hj3, HCl.out.grew hgf, HR3.out.impT fun e A xs hne hm => ?_⟩
      rcases hm with hm | hm
      · exact hm.grew hgf
      · exact (TRow.set (TRow.set (TRow.set hm HB3.out hne _ _) (HB3.out.set _ _) hne _ _) ((HB3.out.set _ _).set _ _) hne _ _).plain
  · have htt : t = false := not_of HT.out (fun ⟨y, hy, he⟩ => h1 _ (List.mem_map.2 ⟨y, hy, rfl⟩) he)
    subst htt
    have hf : F = ⟨⟨#[]⟩, [], []⟩ := by rw [← HF.out]; exact findT_none fun y hy he => h1 _ (List.mem_map.2 ⟨y, hy, rfl⟩) he
    have HFe := Lib.hid hf
    clear hf h1 HT HF HRo
    go_wp2
    have bf := ((HB2.out.set 0 (.string ⟨#[]⟩)).set 1 (.slice none 0 0)).set 2 (.slice none 0 0)
    have q0 := bf.cell 0
    have q1 := bf.cell 1
    have q2 := bf.cell 2
    simp at q0 q1 q2
    refine bodyPost_ret (v := .tuple #[.agg #[.string ⟨#[]⟩, .slice none 0 0, .slice none 0 0], .bool false]) (by simp [results, Try.results58, go_sem, q0, q1, q2]) rfl ⟨none, 0, none, 0, by rw [HFe.out]; rfl, ?_, ?_⟩
    · exact Grew.setCell (Grew.setCell (Grew.setCell HG2.out (Nat.le_refl _) _) (Nat.le_refl _) _) (Nat.le_refl _) _
    · rw [HFe.out]
      exact ⟨none, 0, none, 0, rfl, Nat.le_refl _, Nat.le_refl _, ⟨[], ListR.nil, Or.inl rfl⟩, ⟨[], ListR.nil, Or.inl rfl⟩⟩
end Go.Proofs.Ytcokhgomibimcaa
