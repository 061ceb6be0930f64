/- Layer 39: what is said of a table, the document's own. -/
import Derived.Test.YtcokhgomibimcaaAsk4
namespace Go.Proofs.Ytcokhgomibimcaa
open Go.RowKit
attribute [local go_sem] more_cell more_frozen more_more more_setCell more_of_drew more_of_drewN lt_more le_more past_cell past_cell2 past_frozen past_frozen2 past_setCell past_setCell2 mid_cell mid_frozen mid_setCell
attribute [local go_sem ↓] Go.wp_at_zero Go.wp_at_succ

/-- What is said of a table and the place behind it, or none. -/
def StatOut (l : List Nat) (w : World) (s : StatS × St) (e : Ending) (w' : World) : Prop := Grew w w' ∧
  ((s.2.2 = true ∧ e = .returned (.tuple #[.agg #[.int .i64 0, .slice none 0 0], .int .i64 0, .bool false])) ∨
   ∃ q : Nat, q ≤ l.length ∧ s.2 = (l.drop q, false) ∧ ∃ A k, e = .returned (.tuple #[.agg #[.int .i64 s.1.rows, .slice A s.1.cols.length k], .int .i64 q, .bool true]) ∧ ColsR (TRow w.heap.size w') A s.1.cols)
def RColsAt (l : List Nat) (w : World) (b B k y0 : Nat) (rows : Int) (yv i : Value) (wr : World) : Prop :=
  ∃ (j q : Nat) (A : Option Addr) (c : Nat) (ls : List ColS) (css : List (List Value)), j ≤ k ∧ q ≤ l.length ∧ i = .int .i64 j ∧ yv = .int .i64 q ∧ Blok wr b 97 #[.int .i64 rows, .slice A j c] ∧ ListR (ColR (TRow B wr)) 3 ls css ∧ wr.ownsRow B 101 3 (.slice A j c) j css.flatten ∧ colsS j (l.drop y0, false) = (ls, l.drop q, false) ∧ Blok wr w.heap.size 97 #[.int .i64 0, .slice none 0 0] ∧ B ≤ wr.heap.size ∧ Grew w wr
set_option maxHeartbeats 4000000 in
set_option maxRecDepth 100000 in
theorem rstat_any (l : List Nat) (A : Option Addr) (c : Nat) (p : Nat) (hp : p ≤ l.length) (hc : l.length ≤ c) (hl : l.length ≤ 1000000) (hx : bytesOk l) (w : World) (hr : Row w A (bV l)) :
    Calls Try.prog 107 #[.slice A l.length c, .int .i64 p] w (StatOut l w (statS (l.drop p, false))) := by
  have HG : Hid (∀ (n : Int) W, Grew w W → Calls Try.prog 23 #[.slice A l.length c, .int .i64 n] W (GetIT W (getI l n))) := Lib.hid fun n W hW => rgetint_any l A c n hc hl hx W (hr.grew hW)
  have HCn : Hid (∀ (n : Int) W, Grew w W → Calls Try.prog 101 #[.slice A l.length c, .int .i64 n] W (GetIT W (rcnt l n))) := Lib.hid fun n W hW => rcount_any l A c n hc hl hx W (hr.grew hW)
  have HCo : Hid (∀ (q : Nat) W, q ≤ l.length → Grew w W → Calls Try.prog 147 #[.slice A l.length c, .int .i64 q] W (ColOut l W (colS (l.drop q, false)))) := Lib.hid fun q W hq hW => rcol_any l A c q hq hc hl hx W (hr.grew hW)
  have HS : Hid (statS (l.drop p, false) = (⟨(numS (l.drop p, false)).1, (colsS (cntS (numS (l.drop p, false)).2).1 (cntS (numS (l.drop p, false)).2).2).1⟩, (colsS (cntS (numS (l.drop p, false)).2).1 (cntS (numS (l.drop p, false)).2).2).2)) := Lib.hid rfl
  have HB := Lib.hid (Blok.new w 97 #[.int .i64 0, .slice none 0 0] _ rfl)
  rcases getI_step hx hp with ⟨h0, h1⟩ | ⟨rows, x, hx1, h0, h1⟩
  · have HBad : Hid ((statS (l.drop p, false)).2.2 = true) := Lib.hid (by
      rw [HS.out, h1]
      exact (less_cols _ _).bad ((less_cnt _).bad rfl))
    have G1 := Lib.hid (HG.out p)
    rw [h0] at G1
    clear h0 h1 HG HCn HCo hx hr HS
    generalize statS (l.drop p, false) = s at *
    go_enter Try.func107, Try.ntmps107
    go_wp2_with fail
    refine (G1.out _ ((Grew.refl w).alloc _)).mono ?_
    rintro e w1 ⟨rfl, h1⟩
    have B1 := HB.out.grew h1
    have H1 := Lib.hid (((Grew.refl w).alloc (.cells #[.int .i64 0, .slice none 0 0] 97)).trans h1)
    have d0 := B1.cell 0
    have d1 := B1.cell 1
    have z0 := B1.thaw 0
    have z1 := B1.thaw 1
    have hlt := B1.lt
    simp at d0 d1
    clear h1 B1
    go_wp2
    refine bodyPost_ret (v := .tuple #[.agg #[.int .i64 0, .slice none 0 0], .int .i64 0, .bool false]) (by simp [results, Try.results107, go_sem, d0, d1]) rfl ⟨?_, Or.inl ⟨HBad.out, rfl⟩⟩
    exact (((Turns.refl w1 w.heap.size).set 0 _).set 1 _).below H1.out (Nat.le_refl _)
  · have G1 := Lib.hid (HG.out p)
    rw [h0] at G1
    rw [h1] at HS
    clear h0 h1
    rcases cnt_at hx hx1 with ⟨h2, h3⟩ | ⟨k, y, hy, h2, h3⟩
    · have HBad : Hid ((statS (l.drop p, false)).2.2 = true) := Lib.hid (by
        rw [HS.out]
        exact (less_cols _ _).bad h3)
      have G2 := Lib.hid (HCn.out x)
      rw [h2] at G2
      clear h2 h3 HG HCn HCo hx hr HS
      generalize statS (l.drop p, false) = s at *
      go_enter Try.func107, Try.ntmps107
      go_wp2_with fail
      refine (G1.out _ ((Grew.refl w).alloc _)).mono ?_
      rintro e w1 ⟨rfl, h1⟩
      have H1 := Lib.hid h1
      clear h1
      go_wp2_with fail
      refine (G2.out _ (((Grew.refl w).alloc _).trans H1.out)).mono ?_
      rintro e w2 ⟨rfl, h2⟩
      have B1 := HB.out.grew (H1.out.trans h2)
      have H2 := Lib.hid (((Grew.refl w).alloc (.cells #[.int .i64 0, .slice none 0 0] 97)).trans (H1.out.trans h2))
      have d0 := B1.cell 0
      have d1 := B1.cell 1
      have z0 := B1.thaw 0
      have z1 := B1.thaw 1
      have hlt := B1.lt
      simp at d0 d1
      clear h2 B1
      go_wp2
      refine bodyPost_ret (v := .tuple #[.agg #[.int .i64 0, .slice none 0 0], .int .i64 0, .bool false]) (by simp [results, Try.results107, go_sem, d0, d1]) rfl ⟨?_, Or.inl ⟨HBad.out, rfl⟩⟩
      exact (((Turns.refl w2 w.heap.size).set 0 _).set 1 _).below H2.out (Nat.le_refl _)
    · have G2 := Lib.hid (HCn.out x)
      rw [h2] at G2
      rw [h3] at HS
      have HX := Lib.hid hx
      clear h2 h3 HG HCn hr hx
      generalize statS (l.drop p, false) = s at *
      have hk : k ≤ 1000000 := by omega
      go_enter Try.func107, Try.ntmps107
      go_wp2_with fail
      refine (G1.out _ ((Grew.refl w).alloc _)).mono ?_
      rintro e w1 ⟨rfl, h1⟩
      have H1 := Lib.hid h1
      clear h1
      go_wp2_with fail
      refine (G2.out _ (((Grew.refl w).alloc _).trans H1.out)).mono ?_
      rintro e w2 ⟨rfl, h2⟩
      have H2 := Lib.hid (H1.out.trans h2)
      have hs2 : w.heap.size < w2.heap.size := by have := H2.out.size; simp at this; omega
      have HA : Hid (RColsAt l w w2.heap.size (w2.heap.size + 1) k y rows (.int .i64 y) (.int .i64 0) (w2.alloc (.cells #[.int .i64 rows, .slice none 0 0] 97))) := Lib.hid
        ⟨0, y, none, 0, [], [], Nat.zero_le _, by omega, rfl, rfl, Blok.new w2 _ _ _ rfl, ListR.nil, own_none _ _ _ _, rfl, (HB.out.grew H2.out).alloc _, by simp, (((Grew.refl w).alloc _).trans H2.out).alloc _⟩
      clear h2 H1 H2 G1 G2
      go_wp2_with fail
      generalize w2.heap.size = b at *
      go_loopw [11, 14] (fun yv i wr => RColsAt l w b (b + 1) k y rows yv i wr) (fun _ i _ => k - (intOf i).toNat)
      case atStart => exact HA.out
      case round =>
        clear HA
        obtain ⟨j, q, A3, c3, ls, css, hj, hq, rfl, rfl, hb, hcs, ho, hst, hR, hBs, hgw⟩ := hrel
        have HBb := Lib.hid hb
        have HCs := Lib.hid hcs
        have HO := Lib.hid ho
        have HSt := Lib.hid hst
        have HR := Lib.hid hR
        have HBs := Lib.hid hBs
        have HGw := Lib.hid hgw
        clear hb hcs ho hst hR hBs hgw
        by_cases h : j < k
        · have HColl := Lib.hid (HCo.out q wr hq HGw.out)
          have HStep : Hid (colsS (j + 1) (l.drop y, false) = (ls ++ [(colS (l.drop q, false)).1], (colS (l.drop q, false)).2)) := Lib.hid (by
            show ((colsS j (l.drop y, false)).1 ++ [(colS (colsS j (l.drop y, false)).2).1], (colS (colsS j (l.drop y, false)).2).2) = _
            rw [HSt.out])
          generalize colS (l.drop q, false) = cr at *
          obtain ⟨cc, cs⟩ := cr
          go_wp2_with fail
          refine HColl.out.mono ?_
          rintro e w3 ⟨hg3, hcase⟩
          have G3 := Lib.hid hg3
          have R3 := Lib.hid (HR.out.grew hg3)
          clear hg3
          rcases hcase with ⟨hbad, rfl⟩ | ⟨q2, hq2, hcs2, A4, k4, rfl, hT4⟩
          · have HBad : Hid (s.2.2 = true) := Lib.hid (by
              rw [HS.out]
              have h2 : (colsS (j + 1) (l.drop y, false)).2.2 = true := by rw [HStep.out]; exact hbad
              have h3 := colsS_stay (l.drop y, false) (j + 1) (k - (j + 1)) h2
              rw [show j + 1 + (k - (j + 1)) = k by omega] at h3
              exact h3)
            have d0 := R3.out.cell 0
            have d1 := R3.out.cell 1
            have z0 := R3.out.thaw 0
            have z1 := R3.out.thaw 1
            have hlt := R3.out.lt
            simp at d0 d1
            clear hbad
            go_wp2
            refine bodyPost_ret (v := .tuple #[.agg #[.int .i64 0, .slice none 0 0], .int .i64 0, .bool false]) (by simp [results, Try.results107, go_sem, d0, d1, hlt]) rfl ⟨?_, Or.inl ⟨HBad.out, rfl⟩⟩
            exact ((((Turns.refl _ w.heap.size).set 0 _).set 1 _).below (HGw.out.trans G3.out) (Nat.le_refl _)).alloc _
          · have HT4 := Lib.hid hT4
            have HCs2 := Lib.hid hcs2
            have hsz3 : b + 1 ≤ w3.heap.size := Nat.le_trans HBs.out G3.out.size
            have HB4 := Lib.hid ((HBb.out.grew G3.out).alloc (.cells #[.int .i64 cc.u, .int .i64 cc.n, .slice A4 cc.m.length k4] 101))
            have HO4 := Lib.hid (own_alloc (own_grew HO.out G3.out) (.cells #[.int .i64 cc.u, .int .i64 cc.n, .slice A4 cc.m.length k4] 101))
            have e0 := (HBb.out.grew G3.out).cell 0
            have e1 := (HBb.out.grew G3.out).cell 1
            have y1 := (HBb.out.grew G3.out).thaw 1
            have hltb := (HBb.out.grew G3.out).lt
            simp at e0 e1
            clear hT4 hcs2
            have hrow : ∀ i, (Value.slice A3 j c3).ownBlock = some i → b + 1 ≤ i := own_base HO.out
            go_wp2_with (at_builtin; refine wpList_appB rfl (.tmp 56) (.tmp 58) 95 101 3 rfl (b + 1) (.agg #[.int .i64 0, .int .i64 0, .slice none 0 0]) 40 Try.underlying95 infoC rfl (by decide) (by decide) _ j _ rfl (own_alloc HO4.out _) _ 1 1 [.int .i64 cc.u, .int .i64 cc.n, .slice A4 cc.m.length k4] rfl rfl (row_new _ _ _ #[.int .i64 cc.u, .int .i64 cc.n, .slice A4 cc.m.length k4] (by simp)) (by simp; exact ⟨rfl, rfl, rfl⟩) (by omega) (by simp; omega) ?_; intro A6 c6 w6 ho6 hg6; have HO6 := Lib.hid ho6; have HG6 := Lib.hid hg6; have B6 := Lib.hid ((HB4.out.alloc _).grown hg6 (fun e => by have := hrow b e; omega)); have f1 := B6.out.cell 1; have x1 := B6.out.thaw 1; simp at f1; clear ho6 hg6)
            have hTs : Turns w6 (w6.setCell ⟨b, 1, none⟩ (.slice A6 (j + 1) c6)) b := (Turns.refl w6 b).set 1 _
            have K1 : ∀ A xs, TRow (b + 1) w3 3 A xs → TRow (b + 1) (w6.setCell ⟨b, 1, none⟩ (.slice A6 (j + 1) c6)) 3 A xs := fun A xs h =>
              (((h.grew ((Grew.refl w3).alloc _)).grew ((Grew.refl _).alloc _)).grown (own_alloc HO4.out _) (by decide) HG6.out).turns hTs (by omega)
            have hrb : w.heap.size < b := by have := R3.out.lt; have h1 := HBb.out.lt; omega
            go_wp2
            refine ⟨⟨j + 1, q2, A6, c6, ls ++ [cc], css ++ [[.int .i64 cc.u, .int .i64 cc.n, .slice A4 cc.m.length k4]], by omega, hq2, by go_num, rfl, ?_, ?_, ?_, ?_, ?_, ?_, ?_⟩, by simp only [intOf]; omega⟩
            · have h := B6.out.set 1 (.slice A6 (j + 1) c6)
              simpa using h
            · exact (HCs.out.map (fun x cs h => h.map (fun A xs h => K1 A xs (h.grew G3.out)))).snoc ⟨A4, k4, rfl, K1 _ _ (HT4.out.low HBs.out)⟩ rfl
            · have e : (css ++ [[Value.int .i64 cc.u, Value.int .i64 cc.n, Value.slice A4 cc.m.length k4]]).flatten = css.flatten ++ [Value.int .i64 cc.u, Value.int .i64 cc.n, Value.slice A4 cc.m.length k4] := by simp
              rw [e]
              exact own_turns HO6.out hTs (by omega)
            · rw [HStep.out, HCs2.out]
            · exact (((R3.out.alloc _).alloc _).grown HG6.out (fun e => by have := hrow _ e; omega)).turns hTs (by omega)
            · have h1 := hTs.size
              have h2 := HG6.out.size
              simp at h2
              omega
            · exact hTs.below (((((HGw.out.trans G3.out).alloc _).alloc _)).grown HG6.out (fun i hi => by have := hrow i hi; omega)) (by omega)
        · obtain rfl : j = k := by omega
          have e0 := HBb.out.cell 0
          have e1 := HBb.out.cell 1
          have d0 := HR.out.cell 0
          have d1 := HR.out.cell 1
          have z0 := HR.out.thaw 0
          have z1 := HR.out.thaw 1
          have hltb := HBb.out.lt
          have hltr := HR.out.lt
          simp at e0 e1 d0 d1
          have hcl := colsS_len j (l.drop y, false)
          rw [HSt.out] at hcl
          rw [HSt.out] at HS
          have HCl := Lib.hid hcl
          clear hcl
          go_wp2
          have hT := ((Turns.refl wr w.heap.size).set 0 (.int .i64 rows)).set 1 (.slice A3 j c3)
          refine bodyPost_ret (v := .tuple #[.agg #[.int .i64 rows, .slice A3 j c3], .int .i64 q, .bool true]) (by simp [results, Try.results107, go_sem, d0, d1]) rfl ⟨hT.below HGw.out (Nat.le_refl _), Or.inr ⟨q, hq, by rw [HS.out], A3, c3, ?_, ?_⟩⟩
          · have e := HCl.out
            rw [HS.out]
            simp only [e]
          · rw [HS.out]
            exact ⟨css, HCs.out.map (fun x cs h => h.map (fun A xs h => (h.turns hT (by omega)).low (by omega))), ((TRow.own HO.out).turns hT (by omega)).low (by omega)⟩
end Go.Proofs.Ytcokhgomibimcaa
