/- Layer 5: Without of tables, by the program; the same tables. Condition: no more than a million tables, and rows in each. -/
import Derived.Test.YtcokhgomibimcaaTab14
namespace Go.Proofs.Ytcokhgomibimcaa
open Go.RowKit
attribute [local go_sem] more_cell more_frozen more_more more_setCell more_of_drew more_of_drewN lt_more le_more past_cell past_cell2 past_frozen past_frozen2 past_setCell past_setCell2 mid_cell mid_frozen mid_setCell
attribute [local go_sem ↓] Go.wp_at_zero Go.wp_at_succ

theorem GatT.snoc' {u w wr w' : World} {L : List Tb} {A A' : Option Addr} {c c' j : Nat} {css : List (List Value)} {x : Tb} {cs : List Value} (hj : L.length = j)
    (ho : wr.ownsRow w.heap.size 80 3 (.slice A j c) j css.flatten) (hl : ListR (TbR (MRow u wr)) 3 L css) (hx : TbR (MRow u wr) x cs)
    (ho' : w'.ownsRow w.heap.size 80 3 (.slice A' (j + 1) c') (j + 1) (css.flatten ++ cs)) (hg : Grew w w') (hb : wr.grownBy w' (Value.slice A j c).ownBlock) :
    GatT u w (L ++ [x]) (.slice A' (j + 1) c') w' := by
  subst hj
  exact GatT.snoc ho hl hx ho' hg hb
theorem flatten_set : ∀ (css : List (List Value)) (size : Nat) (_ : ∀ cs ∈ css, cs.length = size) (q i : Nat) (cs : List Value) (v : Value), css[q]? = some cs → i < size → css.flatten.set (q * size + i) v = (css.set q (cs.set i v)).flatten
  | [], size, _, q, i, cs, v, h, _ => by simp at h
  | c :: css, size, hc, q, i, cs, v, h, hi => by
    have hcl : c.length = size := hc c (by simp)
    rcases q with _ | q
    · simp at h
      subst h
      rw [Nat.zero_mul, Nat.zero_add, List.flatten_cons, List.set_append, if_pos (by omega)]
      rfl
    · simp at h
      have e : (q + 1) * size + i - c.length = q * size + i := by rw [hcl, Nat.add_mul]; omega
      rw [List.flatten_cons, List.set_append, if_neg (by rw [hcl, Nat.add_mul]; omega), e, flatten_set css size (fun x hx => hc x (by simp [hx])) q i cs v h hi]
      rfl
theorem ListR.setAt {α : Type} {R : α → List Value → Prop} {size : Nat} {l : List α} {css : List (List Value)} (h : ListR R size l css) {q : Nat} {x : α} {cs : List Value} (hx : R x cs) (hs : cs.length = size) : ListR R size (l.set q x) (css.set q cs) := by
  refine ⟨by simp [h.1], fun i y ds h1 h2 => ?_⟩
  rw [List.getElem?_set] at h1 h2
  by_cases hqi : q = i
  · subst hqi
    rw [if_pos rfl] at h1 h2
    by_cases hl : q < l.length
    · rw [if_pos hl] at h1
      rw [if_pos (by rw [h.1]; exact hl)] at h2
      injection h1 with h1
      injection h2 with h2
      subst h1 h2
      exact ⟨hx, hs⟩
    · rw [if_neg hl] at h1; cases h1
  · rw [if_neg hqi] at h1 h2
    exact h.2 i y ds h1 h2
theorem withoutT_set {l : List Tb} {i : Int} {q : Nat} (h : q < l.length) : withoutT l q i = l.set q (cutT l[q] i) := by
  apply List.ext_getElem?
  intro j
  unfold withoutT
  rw [List.getElem?_map, List.getElem?_set]
  by_cases hj : j < l.length
  · rw [List.getElem?_range hj]
    by_cases hq : q = j
    · subst hq
      simp [outW, hj, List.getD]
    · have : ¬ (j : Int) = (q : Int) := by omega
      simp [outW, hq, this, List.getD, hj]
  · rw [List.getElem?_eq_none (by simp; omega)]
    by_cases hq : q = j
    · omega
    · simp [hq, List.getElem?_eq_none (by omega : l.length ≤ j)]
theorem withoutT_none {l : List Tb} {z i : Int} (h : z < 0) : withoutT l z i = l := by
  apply List.ext_getElem?
  intro j
  unfold withoutT
  rw [List.getElem?_map]
  by_cases hj : j < l.length
  · have : ¬ (j : Int) = z := by omega
    rw [List.getElem?_range hj]
    simp [outW, this, List.getD, hj]
  · rw [List.getElem?_eq_none (by simp; omega), List.getElem?_eq_none (by omega)]
    rfl
theorem trow_set {B : Nat} {w : World} {e : TypeId} {g o i : Nat} {xs : List Value} (h : TRow B w e (some ⟨g, o, none⟩) xs) (hi : i < xs.length) (v : Value) : TRow B (w.setCell ⟨g, o + i, none⟩ v) e (some ⟨g, o, none⟩) (xs.set i v) := by
  rcases h with h | ⟨b', o', cur, hA, hB, hh, hc⟩
  · subst h; simp at hi
  · injection hA with hA
    injection hA with e1 e2 _
    subst e1 e2
    have hb2 := Blok.set (t := e) (cs := cur) (w := w) (g := g) hh (o + i) v
    refine Or.inr ⟨g, o, _, rfl, hB, hb2, fun j u hu => ?_⟩
    rw [List.getElem?_set] at hu
    have hci := hc i _ (List.getElem?_eq_getElem hi)
    have hsz : o + i < cur.size := by
      rcases Nat.lt_or_ge (o + i) cur.size with h | h
      · exact h
      · rw [Array.getElem?_eq_none h] at hci; cases hci
    by_cases hij : i = j
    · subst hij
      simp [hi] at hu
      subst hu
      rw [Array.getElem?_setIfInBounds_self_of_lt hsz]
    · rw [if_neg hij] at hu
      rw [Array.getElem?_setIfInBounds_ne (by omega)]
      exact hc j u hu
def SWoAt (u w : World) (l : List Tb) (v p : Value) (wr : World) : Prop := ∃ j : Nat, j ≤ l.length ∧ p = .int .i64 j ∧ GatT u w (l.take j) v wr
set_option maxHeartbeats 2000000 in
set_option maxRecDepth 100000 in
theorem withoutT_any (l : List Tb) (m : Nat) (hm : l.length = m) (hm1 : m ≤ 1000000) (hro : ∀ y ∈ l, y.rows.length ≤ 1000000) (n : ByteArray) (z : Int) (hz : Idx (l.map Tb.name) n z) (i : Int) (A : Option Addr) (k : Nat) (u w : World) (g : Grew u w) (ra : TbsR (PRow u) A l) :
    Calls Try.prog 64 #[.slice A m k, .string n, .int .i64 i] w (TabsF u w (withoutT l z i)) := by
  have RA := Lib.hid ra
  have HM := Lib.hid hm
  have GU := Lib.hid g
  have HZ := Lib.hid hz
  have HRo := Lib.hid hro
  have HNm : Hid (∀ W, Grew w W → Gives Try.prog 126 #[.slice A m k, .string n] W (.int .i64 z)) := Lib.hid fun W hW => IdxF.gives (named_any l m hm (by unfold maxLen; omega) n A k W (ra.grew (g.trans hW))) hz
  clear ra hm g hz hro
  obtain ⟨i0, hi, hz0, hz1, hz2⟩ := info_parts infoTb
  have HJ := Lib.hid hi
  have HJ0 := Lib.hid hz0
  have HJ1 := Lib.hid hz1
  have HJ2 := Lib.hid hz2
  clear hi hz0 hz1 hz2
  go_enter Try.func64, Try.ntmps64
  go_wp2_with (at_make; refine wpList_make_own _ rfl _ _ 73 rfl w.heap.size 80 i0 (.agg #[.string ⟨#[]⟩, .slice none 0 0, .slice none 0 0]) 3 Try.underlying73 HJ.out HJ0.out HJ1.out _ _ _ m rfl rfl rfl (by rw [HJ2.out]; omega) (by unfold maxLen; omega) (Nat.le_refl _) ?_; intro w1 ho1 hg1; have HO1 := Lib.hid ho1; have HG1 : Hid (Grew w w1) := Lib.hid (Grew.grown (Grew.refl w) hg1 (fun k hk => by cases hk)); clear ho1 hg1)
  go_loopw [7, 16] (fun v p wr => SWoAt u w l v p wr) (fun _ p _ => m - (intOf p).toNat)
  case atStart => exact ⟨0, Nat.zero_le _, rfl, _, _, [], rfl, HG1.out, by simpa using HO1.out, ListR.nil⟩
  case round =>
    obtain ⟨j, hj, rfl, hgt⟩ := hrel
    rw [HM.out] at hj
    have HGT := Lib.hid hgt
    clear hgt HO1 HG1
    by_cases h : j < m
    · have h1 : j < l.length := by rw [HM.out]; exact h
      obtain ⟨b, o, C, k2, B, j2, rfl, hk2, hj2, hcl, hrw, ⟨hb', a0', a1', a2'⟩⟩ := tbsR_at RA.out h1
      obtain ⟨A2, c2, css, hv, hg, ho, hls⟩ := HGT.out
      have hgu := GU.out.trans hg
      have hb : b < wr.heap.size := Nat.lt_of_lt_of_le hb' hgu.size
      have a0 := (hgu.cell (a := ⟨b, o + j * 3, none⟩) hb').trans a0'
      have a1 := (hgu.cell (a := ⟨b, o + j * 3 + 1, none⟩) hb').trans a1'
      have a2 := (hgu.cell (a := ⟨b, o + j * 3 + 2, none⟩) hb').trans a2'
      have hln : (l.take j).length = j := by rw [List.length_take]; omega
      rw [hln] at hv ho
      subst hv
      have HG := Lib.hid hg
      have HO := Lib.hid ho
      have HL := Lib.hid hls
      have HLn := Lib.hid hln
      have HSn : Hid (l.take (j + 1) = l.take j ++ [l[j]]) := Lib.hid (List.take_succ_eq_append_getElem h1)
      have hrl := HRo.out _ (List.getElem_mem h1)
      have HOw : Hid (∀ W, Grew w W → Calls Try.prog 127 #[tbV l[j] C k2 B j2] W (OwnF u W l[j] C k2)) := Lib.hid fun W hW => own_any l[j] C B k2 j2 hrl u W (GU.out.trans hW) hrw
      have HCl : Hid (ClsR (PRow u) C l[j].cols) := Lib.hid hcl
      clear hb' a0' a1' a2' hcl hrw hg ho hls hgu HGT hln
      generalize l.take j = L at *
      generalize l[j] = t at *
      obtain ⟨name, cols, rows⟩ := t
      unfold tbV at HOw
      simp only at *
      go_wp2_with fail
      refine (HOw.out _ (HG.out.alloc _)).mono ?_
      rintro e w2 ⟨B3, j3, rfl, hj3, hg2, hr3⟩
      have HGw : Hid (Grew wr w2) := Lib.hid (((Grew.refl wr).alloc _).trans hg2)
      have HO3 : Hid (World.ownsRow (w2.alloc (.cells #[.string name, .slice C cols.length k2, .slice B3 rows.length j3] 80)) w.heap.size 80 3 (.slice A2 j c2) j css.flatten) := Lib.hid (by
        obtain ⟨x, hx⟩ := HGw.out
        exact own_alloc (by rw [hx]; exact own_more HO.out x) _)
      have HL3 := Lib.hid (HL.out.map fun t cs (ht : TbR (MRow u wr) t cs) => ht.grewM (HGw.out.alloc (.cells #[.string name, .slice C cols.length k2, .slice B3 rows.length j3] 80)))
      have HX3 : Hid (TbR (MRow u (w2.alloc (.cells #[.string name, .slice C cols.length k2, .slice B3 rows.length j3] 80))) ⟨name, cols, rows⟩ [.string name, .slice C cols.length k2, .slice B3 rows.length j3]) := Lib.hid ⟨C, k2, B3, j3, rfl, hk2, hj3, HCl.out.imp fun _ _ _ hx => MRow.old hx, hr3.imp fun _ _ _ hm => hm.grew ((Grew.refl _).alloc _)⟩
      have HG3 : Hid (Grew w (w2.alloc (.cells #[.string name, .slice C cols.length k2, .slice B3 rows.length j3] 80))) := Lib.hid ((HG.out.trans HGw.out).alloc _)
      have HOne : Hid (∀ x ∈ [Value.string name, .slice C cols.length k2, .slice B3 rows.length j3], x.oneCell' = true) := Lib.hid (tbR_one HX3.out)
      unfold tbV
      simp only
      clear hg2 hr3 HOw a0 a1 a2
      go_wp2_with (at_builtin; refine wpList_apps rfl _ _ 73 80 3 rfl w (.agg #[.string ⟨#[]⟩, .slice none 0 0, .slice none 0 0]) 64 Try.underlying73 infoTb rfl (by decide) (by decide) _ j _ rfl HO3.out _ 1 1 [.string name, .slice C cols.length k2, .slice B3 rows.length j3] rfl rfl (row_new _ _ _ _ (by simp)) HOne.out (by omega) HG3.out ?_; intro A' c' w' ho' _ hg' hgb _; have HGT := Lib.hid (GatT.snoc' HLn.out HO3.out HL3.out HX3.out ho' hg' hgb); clear ho' hg' hgb)
      exact ⟨⟨j + 1, by rw [HM.out]; omega, by go_num, by rw [HSn.out]; exact HGT.out⟩, by simp only [intOf]; omega⟩
    · obtain rfl : j = m := by omega
      obtain ⟨A2, c2, css, hv, hg, ho, hls⟩ := HGT.out
      rw [List.take_of_length_le (Nat.le_of_eq HM.out)] at hv ho hls
      rw [HM.out] at hv ho
      subst hv
      have HG := Lib.hid hg
      have HO := Lib.hid ho
      have HL := Lib.hid hls
      clear hg ho hls HGT
      go_wp2_with fail
      refine (HNm.out _ HG.out).grows.mono ?_
      rintro e w2 ⟨rfl, hg2⟩
      have HGw := Lib.hid hg2
      have HO2 : Hid (w2.ownsRow w.heap.size 80 3 (.slice A2 j c2) j css.flatten) := Lib.hid (by
        obtain ⟨x, hx⟩ := hg2
        rw [hx]; exact own_more HO.out x)
      have HL2 := Lib.hid (HL.out.map fun t cs (ht : TbR (MRow u wr) t cs) => ht.grewM hg2)
      clear hg2 HNm HO HL
      rcases HZ.out with ⟨q, rfl, hq, _, _⟩ | ⟨rfl, _⟩
      · have hql : q < l.length := by simpa using hq
        have hqj : q < j := by rw [← HM.out]; exact hql
        have hq0 : 0 ≤ (q : Int) := by omega
        obtain ⟨b, o, C, k2, B, j2, rfl, hk2, hj2, hcl, hrw, ⟨hb', a0', a1', a2'⟩⟩ := tbsR_at RA.out hql
        have hgu := GU.out.trans (HG.out.trans HGw.out)
        have hb : b < w2.heap.size := Nat.lt_of_lt_of_le hb' hgu.size
        have a2 := (hgu.cell (a := ⟨b, o + q * 3 + 2, none⟩) hb').trans a2'
        have hrl := HRo.out _ (List.getElem_mem hql)
        have HWo : Hid (Calls Try.prog 130 #[.slice B l[q].rows.length j2, .int .i64 i] w2 (RowsF u w2 (withoutI l[q].rows i))) := Lib.hid (without_any _ _ rfl hrl i B j2 hj2 u w2 hgu hrw)
        have HSet := Lib.hid (withoutT_set (i := i) hql)
        have hcss : q < css.length := by rw [HL2.out.1]; exact hql
        have HCs : Hid (TbR (MRow u w2) l[q] css[q]) := Lib.hid (HL2.out.2 q _ _ (List.getElem?_eq_getElem hql) (List.getElem?_eq_getElem hcss)).1
        have hfl : css.flatten.length = j * 3 := by rw [HL2.out.flat, HM.out]
        have hq3 : q * 3 + 2 < css.flatten.length := by omega
        clear hb' a0' a1' a2' hcl hrw hgu
        generalize hlq : l[q] = t at *
        have HLQ := Lib.hid hlq
        clear hlq
        obtain ⟨name, cols, rows⟩ := t
        simp only at *
        go_wp2_with fail
        refine HWo.out.mono ?_
        rintro e w5 ⟨A5, c5, rfl, hc5, hg5, hr5⟩
        have hO5 : w5.ownsRow w.heap.size 80 3 (.slice A2 j c2) j css.flatten := by
          obtain ⟨x, hx⟩ := hg5
          rw [hx]; exact own_more HO2.out x
        obtain ⟨g, cap, cur, hv, hgb, hcap, hbk, hcur⟩ := own_blok hO5 (fun e => by rw [e] at hq3; simp at hq3)
        injection hv with hv1 _ hv3
        subst hv1 hv3
        have d2 := hbk.cell (q * 3 + 2)
        rw [hcur _ _ (List.getElem?_eq_getElem hq3)] at d2
        have y2 := hbk.thaw (q * 3 + 2)
        have dl := hbk.lt
        have HT5 : Hid (TRow u.heap.size w5 80 (some ⟨g, 0, none⟩) css.flatten) := Lib.hid (TRow.own (own_le hO5 GU.out.size))
        have hgg : w.heap.size ≤ g := hgb
        have HR5 := Lib.hid hr5
        have HG5 := Lib.hid hg5
        have HBK := Lib.hid hbk
        have HR : Hid (TabsF u w (withoutT l q i) (.returned (.slice (some ⟨g, 0, none⟩) j c2)) (w5.setCell ⟨g, q * 3 + 2, none⟩ (.slice A5 (withoutI rows i).length c5))) := Lib.hid (by
          have hset : ∀ e A xs, e ≠ 80 → MRow u w5 e A xs → MRow u (w5.setCell ⟨g, q * 3 + 2, none⟩ (.slice A5 (withoutI rows i).length c5)) e A xs := fun e A xs hne hm => hm.set hbk hne _ _
          have hl5 : ListR (TbR (MRow u (w5.setCell ⟨g, q * 3 + 2, none⟩ (.slice A5 (withoutI rows i).length c5)))) 3 l css := HL2.out.map fun t cs (ht : TbR (MRow u w2) t cs) => TbR.impT hset (ht.grewM hg5)
          obtain ⟨C', k', B', j', hcs, hk', hj', hcl', hrw'⟩ := HCs.out
          have hnew : TbR (MRow u (w5.setCell ⟨g, q * 3 + 2, none⟩ (.slice A5 (withoutI rows i).length c5))) (cutT ⟨name, cols, rows⟩ i) (css[q].set 2 (.slice A5 (withoutI rows i).length c5)) := by
            rw [hcs]
            exact ⟨C', k', A5, c5, rfl, hk', hc5, (hcl'.imp fun _ _ _ hm => hm.grew hg5).impT hset, hr5.impT hset⟩
          have hs3 : (css[q].set 2 (.slice A5 (withoutI rows i).length c5)).length = 3 := by rw [List.length_set, hcs]; rfl
          rw [HSet.out]
          refine ⟨some ⟨g, 0, none⟩, c2, by rw [List.length_set, HM.out], by rw [List.length_set, HM.out]; exact hcap, Grew.setCell ((HG.out.trans HGw.out).trans hg5) hgg _, _, hl5.setAt hnew hs3, ?_⟩
          rw [← flatten_set css 3 HL2.out.all q 2 css[q] _ (List.getElem?_eq_getElem hcss) (by decide)]
          have := trow_set HT5.out hq3 (.slice A5 (withoutI rows i).length c5)
          rw [Nat.zero_add] at this
          exact Or.inr this)
        clear hbk hg5 hr5 hO5 hcur HWo a2 HL2 HO2 HCs HSet HT5 hgb
        generalize (withoutI rows i).length = rl at *
        generalize css.flatten[q * 3 + 2] = ov at *
        go_wp2
        go_ret
        exact HR.out
      · have HR : Hid (TabsF u w (withoutT l (-1) i) (.returned (.slice A2 j c2)) w2) := Lib.hid (by
          rw [withoutT_none (by omega)]
          exact ⟨A2, c2, by rw [HM.out], by rw [HM.out]; exact own_cap' HO2.out, HG.out.trans HGw.out, css, HL2.out, MRow.own (own_le HO2.out GU.out.size)⟩)
        clear HO2 HL2
        go_wp2
        go_ret
        exact HR.out
end Go.Proofs.Ytcokhgomibimcaa
