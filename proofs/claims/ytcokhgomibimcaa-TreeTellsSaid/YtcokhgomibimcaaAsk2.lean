/- Layer 39: what is said of a table is read. -/
import Derived.Test.YtcokhgomibimcaaAsk1
import Derived.Test.YtcokhgomibimcaaHead
namespace Go.Proofs.Ytcokhgomibimcaa
open Go.RowKit
attribute [local go_sem] more_cell more_frozen more_more more_setCell more_of_drew more_of_drewN lt_more le_more past_cell past_cell2 past_frozen past_frozen2 past_setCell past_setCell2 mid_cell mid_frozen mid_setCell
attribute [local go_sem ↓] Go.wp_at_zero Go.wp_at_succ

def StatT (u w : World) (g : Nat) (x : StatS) (s : St) (e : Ending) (w' : World) : Prop := ∃ A k, e = .returned (.agg #[.int .i64 x.rows, .slice A x.cols.length k]) ∧ ColsR (TRow w.heap.size w') A x.cols ∧ LeftIs u w' g s.1 s.2 ∧ Turns w w' g
/-- While columns are read: they lie above B, block b tells where. -/
def ColsAt (u w : World) (g b B r0 : Nat) (rows : Int) (k : Nat) (s : St) (i : Value) (wr : World) : Prop :=
  ∃ (j : Nat) (A : Option Addr) (c : Nat) (css : List (List Value)), j ≤ k ∧ i = .int .i64 j ∧ Blok wr b 97 #[.int .i64 rows, .slice A j c] ∧ ListR (ColR (TRow B wr)) 3 (colsS j s).1 css ∧ wr.ownsRow B 101 3 (.slice A j c) j css.flatten ∧ LeftIs u wr g (colsS j s).2.1 (colsS j s).2.2 ∧ Turns w wr g ∧ Blok wr r0 97 #[.int .i64 0, .slice none 0 0] ∧ B ≤ wr.heap.size
theorem LeftIs.grow {u w w' : World} {g : Nat} {l : List Nat} {f : Bool} (h : LeftIs u w g l f) (k : Grew w w') : LeftIs u w' g l f := by
  obtain ⟨A, m, h1, h2, h3, h4, h5⟩ := h
  exact ⟨A, m, h1, h2.grew k, h3, h4, h5.trans k⟩
set_option maxHeartbeats 4000000 in
set_option maxRecDepth 100000 in
theorem stat_to (u : World) (g : Nat) (s : St) (hl : s.1.length ≤ 1000000) (hx : bytesOk s.1) (w : World) (hg : LeftIs u w g s.1 s.2) :
    Calls Try.prog 106 #[.pointer (some ⟨g, 0, none⟩)] w (StatT u w g (statS s).1 (statS s).2) := by
  have hgw := hg.lt
  have HN : Hid (∀ t W, Less s t → LeftIs u W g t.1 t.2 → Calls Try.prog 99 #[.pointer (some ⟨g, 0, none⟩)] W (NumT u W g (numS t).1 (numS t).2)) := Lib.hid fun t W h1 h2 => number_to u g t (Nat.le_trans h1.len hl) (h1.ok hx) W h2
  have HI : Hid (∀ t W, Less s t → LeftIs u W g t.1 t.2 → Calls Try.prog 100 #[.pointer (some ⟨g, 0, none⟩)] W (IntsT u W g (intsS t).1 (intsS t).2)) := Lib.hid fun t W h1 h2 => ints_to u g t (Nat.le_trans h1.len hl) (h1.ok hx) W h2
  have HC : Hid (∀ t W, Less s t → LeftIs u W g t.1 t.2 → Calls Try.prog 105 #[.pointer (some ⟨g, 0, none⟩)] W (NumT u W g (cntS t).1 (cntS t).2)) := Lib.hid fun t W h1 h2 => count_to u g t (Nat.le_trans h1.len hl) (h1.ok hx) W h2
  have L1 := less_num s
  have L2 := L1.trans (less_cnt (numS s).2)
  have hk := Nat.le_trans (cntS_left (numS s).2).2.2 (Nat.le_trans L2.len hl)
  have HS : Hid (statS s = (⟨(numS s).1, (colsS (cntS (numS s).2).1 (cntS (numS s).2).2).1⟩, (colsS (cntS (numS s).2).1 (cntS (numS s).2).2).2)) := Lib.hid rfl
  have HG := Lib.hid (hg.alloc (.cells #[.int .i64 0, .slice none 0 0] 97))
  have HB := Lib.hid (Blok.new w 97 #[.int .i64 0, .slice none 0 0] _ rfl)
  have C1 := Lib.hid (HN.out s _ (Less.refl s) HG.out)
  have C2 := Lib.hid (HC.out _ · L1)
  have L2 := Lib.hid L2
  clear hg L1
  generalize statS s = r at *
  generalize numS s = n1 at *
  generalize cntS n1.2 = n2 at *
  obtain ⟨k, s2⟩ := n2
  obtain ⟨rows, s1⟩ := n1
  simp only at hk
  go_enter Try.func106, Try.ntmps106
  go_wp2_with fail
  refine C1.out.mono ?_
  rintro e w1 ⟨rfl, h1, t1⟩
  have H1 := Lib.hid h1
  have T1 := Lib.hid t1
  have hw1 := t1.size
  simp at hw1
  have B1 := Lib.hid (HB.out.turns t1 (by omega))
  clear h1 t1
  go_wp2_with fail
  refine (C2.out _ (H1.out.alloc _)).mono ?_
  rintro e w2 ⟨rfl, h2, t2⟩
  have hw2 := t2.size
  simp at hw2
  have HA : Hid (ColsAt u w g w1.heap.size w2.heap.size w.heap.size rows k s2 (.int .i64 0) w2) := Lib.hid ⟨0, none, 0, [], Nat.zero_le _, rfl, (Blok.new w1 _ _ _ rfl).turns t2 (by omega), ListR.nil, own_none _ _ _ _, h2, (((Turns.refl w g).grew ((Grew.refl w).alloc _)).trans (T1.out.grew ((Grew.refl _).alloc _))).trans t2, (B1.out.alloc _).turns t2 (by omega), Nat.le_refl _⟩
  have hb1 : g < w1.heap.size := by omega
  have hb2 : w1.heap.size < w2.heap.size := by omega
  have hb3 : w.heap.size < w2.heap.size := by omega
  have hb4 : w1.heap.size ≠ w.heap.size := by omega
  have hb5 : w.heap.size ≤ w1.heap.size := by omega
  clear h2 t2 hw1 hw2
  generalize w1.heap.size = b at *
  generalize w2.heap.size = B at *
  go_wp2_with fail
  go_loopw [9] (fun i wr => ColsAt u w g b B w.heap.size rows k s2 i wr) (fun i _ => k - (intOf i).toNat)
  case atStart => exact HA.out
  case round =>
    clear HA C1 C2 H1 T1 B1 HG HB
    obtain ⟨j, A, c, css, hj, rfl, hb, hcs, ho, hL, hT, hR, hBs⟩ := hrel
    have HBb := Lib.hid hb
    have HCs := Lib.hid hcs
    have HO := Lib.hid ho
    have HL := Lib.hid hL
    have HT := Lib.hid hT
    have HR := Lib.hid hR
    have HBs := Lib.hid hBs
    clear hb hcs ho hL hT hR hBs
    by_cases h : j < k
    · have hLs := L2.out.trans (less_cols j s2)
      have N1 := Lib.hid (HN.out (colsS j s2).2 wr.drew hLs (HL.out.grow (Grew.refl _).drew))
      have N2 := Lib.hid (HN.out (numS (colsS j s2).2).2 · (hLs.trans (less_num _)))
      have N3 := Lib.hid (HI.out (numS (numS (colsS j s2).2).2).2 · ((hLs.trans (less_num _)).trans (less_num _)))
      have HStep : Hid (colsS (j + 1) s2 = ((colsS j s2).1 ++ [⟨(numS (colsS j s2).2).1, (numS (numS (colsS j s2).2).2).1, (intsS (numS (numS (colsS j s2).2).2).2).1⟩], (intsS (numS (numS (colsS j s2).2).2).2).2)) := Lib.hid rfl
      clear hLs
      generalize numS (colsS j s2).2 = m1 at *
      generalize numS m1.2 = m2 at *
      generalize intsS m2.2 = m3 at *
      obtain ⟨ms, s5⟩ := m3
      obtain ⟨v1, s3⟩ := m1
      obtain ⟨v2, s4⟩ := m2
      go_upto_region 4 with fail
      have hS0 : Blok wr.drew b 97 #[.int .i64 rows, .slice A j c] := HBb.out.grew (Grew.refl _).drew
      refine wp_region_last (fun W => Blok W b 97 #[.int .i64 rows, .slice A j c]) 12 rfl (by kernel_rfl) ?_
      refine last_take 0 (v := ?_) rfl (by kernel_rfl) (by kernel_rfl) (by kernel_rfl) (by kernel_rfl) (fun _ _ _ h => h) (by rfl) ?_ hS0 ?_
      rotate_left
      · (intro W hW; go_simp; with_reducible rfl)
      refine last_take 2 (v := ?_) rfl (by kernel_rfl) (by kernel_rfl) (by kernel_rfl) (by kernel_rfl) (fun _ _ _ h => h) (by rfl) ?_ hS0 ?_
      rotate_left
      · (intro W hW; go_simp; with_reducible rfl)
      refine last_take 4 (v := ?_) rfl (by kernel_rfl) (by kernel_rfl) (by kernel_rfl) (by kernel_rfl) (fun _ _ _ h => h) (by rfl) ?_ hS0 ?_
      rotate_left
      · (intro W hW; go_simp; with_reducible rfl)
      refine last_take 6 (v := ?_) rfl (by kernel_rfl) (by kernel_rfl) (by kernel_rfl) (by kernel_rfl) (fun _ _ _ h => h) (by rfl) ?_ hS0 ?_
      rotate_left
      · (intro W hW; go_simp; with_reducible rfl)
      refine last_norm (a' := ?_) ?_ ?_
      rotate_left
      · (go_simp; with_reducible rfl)
      refine last_take 1 (v := ?_) rfl (by kernel_rfl) (by kernel_rfl) (by kernel_rfl) (by kernel_rfl) (fun _ _ _ h => h) (by rfl) ?_ hS0 ?_
      rotate_left
      · (intro W hW; have q := hW.cell 1; simp at q; go_simp; with_reducible rfl)
      refine last_norm (a' := ?_) ?_ ?_
      rotate_left
      · (go_simp; with_reducible rfl)
      refine last_call 3 (by kernel_rfl) (by kernel_rfl) rfl (by rfl) (fun K hK => ?_)
      go_simp
      go_wp2_with (go_at_call 99; (with_reducible refine N1.out.mono ?_); rintro e w3 ⟨rfl, h3, t3⟩; have H3 := Lib.hid h3; have T3 := Lib.hid t3; have hS3 := hS0.turns t3 (by omega); clear h3 t3)
      refine hK.out _ _ hS3 ?_
      clear hK K
      refine last_call 5 (by kernel_rfl) (by kernel_rfl) rfl (by rfl) (fun K hK => ?_)
      go_simp
      go_wp2_with (go_at_call 99; (with_reducible refine (N2.out _ H3.out).mono ?_); rintro e w4 ⟨rfl, h4, t4⟩; have H4 := Lib.hid h4; have T4 := Lib.hid (T3.out.trans t4); have hS4 := hS3.turns t4 (by omega); clear h4 t4)
      refine hK.out _ _ hS4 ?_
      clear hK K
      refine last_call 7 (by kernel_rfl) (by kernel_rfl) rfl (by rfl) (fun K hK => ?_)
      go_simp
      go_wp2_with (go_at_call 100; (with_reducible refine (N3.out _ H4.out).mono ?_); rintro e w5 ⟨A5, c5, rfl, ho5, h5, t5⟩; have H5 := Lib.hid h5; have T5 := Lib.hid (T4.out.trans t5); have hS5 := hS4.turns t5 (by omega); have HO5 := Lib.hid ho5; have hsz5 := T4.out.size; clear h5 t5 ho5)
      refine hK.out _ _ hS5 ?_
      clear hK K
      refine last_take 8 (v := ?_) rfl (by kernel_rfl) (by kernel_rfl) (by kernel_rfl) (by kernel_rfl) (fun _ _ _ h => h) (by rfl) ?_ hS5 ?_
      rotate_left
      · (intro W hW; go_simp; with_reducible rfl)
      refine last_norm (a' := ?_) ?_ ?_
      rotate_left
      · (go_simp; with_reducible rfl)
      have hrow : ∀ i, (Value.slice A j c).ownBlock = some i → B ≤ i := own_base HO.out
      have HOw := Lib.hid (own_turns (own_grew HO.out (Grew.refl wr).drew) T5.out (by omega))
      have hszB : B ≤ w5.heap.size := by have := T5.out.size; have := HBs.out; have e : wr.drew.heap.size = wr.heap.size := rfl; omega
      refine last_call 9 (by kernel_rfl) (by kernel_rfl) rfl (by rfl) (fun K hK => ?_)
      go_simp
      go_wp2_with fail
      refine hK.out _ _ (hS5.alloc _) ?_
      clear hK K
      refine last_call 10 (by kernel_rfl) (by kernel_rfl) rfl (by rfl) (fun K hK => ?_)
      refine wp_appB (.tmp 12) (.tmp 20) 95 101 3 rfl B (.agg #[.int .i64 0, .int .i64 0, .slice none 0 0]) 40 Try.underlying95 infoC rfl (by decide) (by decide) _ j _ rfl (own_alloc HOw.out _) _ 1 1 [.int .i64 v1, .int .i64 v2, .slice A5 ms.length c5] rfl rfl (row_new _ _ _ #[.int .i64 v1, .int .i64 v2, .slice A5 ms.length c5] rfl) (by simp; exact ⟨rfl, rfl, rfl⟩) (by omega) (by simp; omega) ?_
      intro A6 c6 w6 ho6 hg6
      have hS6 : Blok w6 b 97 #[.int .i64 rows, .slice A j c] := (hS5.alloc _).grown hg6 (fun e => by have := hrow b e; omega)
      refine hK.out _ _ hS6 ?_
      clear hK K
      refine last_take 11 (v := ?_) rfl (by kernel_rfl) (by kernel_rfl) (by kernel_rfl) (by kernel_rfl) (fun _ _ _ h => h) (by rfl) ?_ hS6 ?_
      rotate_left
      · (intro W hW; go_simp; with_reducible rfl)
      refine last_norm (a' := ?_) ?_ ?_
      rotate_left
      · (go_simp; with_reducible rfl)
      have d1 := hS6.cell 1
      have z1 := hS6.thaw 1
      simp at d1
      refine last_last (by kernel_rfl) (by kernel_rfl) rfl (by rfl) (fun K hK => ?_)
      go_simp
      go_wp2_with fail
      refine hK.out _ _ ?_
      clear hK K
      go_wp2
      have hsz4 : B ≤ w4.heap.size := by have := T4.out.size; have := HBs.out; have e : wr.drew.heap.size = wr.heap.size := rfl; omega
      have hTs : Turns w6 (w6.setCell ⟨b, 1, none⟩ (.slice A6 (j + 1) c6)) b := (Turns.refl w6 b).set 1 _
      have K1 : ∀ A xs, TRow B w5 3 A xs → TRow B (w6.setCell ⟨b, 1, none⟩ (.slice A6 (j + 1) c6)) 3 A xs := fun A xs h =>
        ((h.grew ((Grew.refl w5).alloc _)).grown (own_alloc HOw.out _) (by decide) hg6).turns hTs hb2
      refine ⟨⟨j + 1, A6, c6, css ++ [[.int .i64 v1, .int .i64 v2, .slice A5 ms.length c5]], by omega, by go_num, ?_, ?_, ?_, ?_, ?_, ?_, ?_⟩, by simp only [intOf]; omega⟩
      · have h := hS6.set 1 (.slice A6 (j + 1) c6)
        simpa using h
      · rw [HStep.out]
        exact (HCs.out.map (fun x cs h => h.map (fun A xs h => K1 A xs ((h.grew (Grew.refl wr).drew).turns T5.out (by omega))))).snoc ⟨A5, c5, rfl, K1 _ _ ((TRow.own HO5.out).low hsz4)⟩ rfl
      · have e : (css ++ [[Value.int .i64 v1, Value.int .i64 v2, Value.slice A5 ms.length c5]]).flatten = css.flatten ++ [Value.int .i64 v1, Value.int .i64 v2, Value.slice A5 ms.length c5] := by simp
        rw [e]
        exact own_turns ho6 hTs hb2
      · rw [HStep.out]
        exact ((H5.out.alloc _).grown hg6 (fun i hi => by have := hrow i hi; omega)).turns hTs hb1
      · exact ((((HT.out.grew (Grew.refl wr).drew).trans T5.out).grew ((Grew.refl w5).alloc _)).grown hg6 (fun i hi => by have := hrow i hi; omega)).high hTs hb5
      · exact ((((HR.out.grew (Grew.refl wr).drew).turns T5.out (by omega)).alloc _).grown hg6 (fun e => by have := hrow _ e; omega)).turns hTs (by omega)
      · have h1 := hTs.size
        have h2 := hg6.size
        simp at h2
        omega
    · obtain rfl : j = k := by omega
      have e0 := HBb.out.cell 0
      have e1 := HBb.out.cell 1
      have d0 := HR.out.cell 0
      have d1 := HR.out.cell 1
      have z0 := HR.out.thaw 0
      have z1 := HR.out.thaw 1
      have hltb := HBb.out.lt
      have hltr := HR.out.lt
      simp at e0 e1 d0 d1
      have hcl := colsS_len j s2
      have HCl := Lib.hid hcl
      clear hcl
      go_wp2
      have hTs : Turns wr ((wr.setCell ⟨w.heap.size, 0, none⟩ (.int .i64 rows)).setCell ⟨w.heap.size, 1, none⟩ (.slice A j c)) w.heap.size := ((Turns.refl wr _).set 0 _).set 1 _
      have HF : StatT u w g r.1 r.2 (.returned (.agg #[.int .i64 rows, .slice A j c])) ((wr.setCell ⟨w.heap.size, 0, none⟩ (.int .i64 rows)).setCell ⟨w.heap.size, 1, none⟩ (.slice A j c)) := by
        rw [HS.out]
        have e := HCl.out
        refine ⟨A, c, by simp only [e], ?_, HL.out.turns hTs hgw, HT.out.high hTs (Nat.le_refl _)⟩
        refine ⟨css, HCs.out.map (fun x cs h => h.map (fun A xs h => (h.turns hTs hb3).low (by omega))), ?_⟩
        exact ((TRow.own HO.out).turns hTs hb3).low (by omega)
      exact bodyPost_ret (v := .agg #[.int .i64 rows, .slice A j c]) (by simp [results, Try.results106, go_sem, d0, d1]) rfl HF
end Go.Proofs.Ytcokhgomibimcaa
