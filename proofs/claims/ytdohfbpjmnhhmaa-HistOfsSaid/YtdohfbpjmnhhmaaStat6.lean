/- Layer 27: what is held of anything that is said, by the document. Condition: no more than a million marks a column. -/
import Derived.Test.YtdohfbpjmnhhmaaStat5
namespace Go.Proofs.Ytdohfbpjmnhhmaa
open Go.RowKit
attribute [local go_sem] more_cell more_frozen more_more more_setCell more_of_drew more_of_drewN lt_more le_more past_cell past_cell2 past_frozen past_frozen2 past_setCell past_setCell2 mid_cell mid_frozen mid_setCell
attribute [local go_sem ↓] Go.wp_at_zero Go.wp_at_succ
set_option maxHeartbeats 8000000 in
set_option maxRecDepth 100000 in
theorem rheld27_any (s : Sst) (A : Option Addr) (k : Nat) (cols : Int) (hm : ∀ x ∈ s.cols, x.m.length ≤ 1000000) (hsl : s.cols.length ≤ 1000000) (w : World) (ra : CstsR (PRow w) A s.cols) :
    Calls Try.prog 14 #[.agg #[.int .i64 s.rows, .slice A s.cols.length k], .int .i64 cols] w (HeldF w (heldS s cols)) := by
  have RA := Lib.hid ra
  have HMl := Lib.hid hm
  have HS0 : Hid (0 ≤ cutI s.rows) := Lib.hid (cutI_s s.rows).1
  have HFin : Hid (∀ B j W, Grew w W → CstsR (PRow W) B (heldP s (heldN cols)) → HeldF w (heldS s cols) (.returned (.agg #[.int .i64 (cutI s.rows), .slice B (heldN cols) j])) W) := Lib.hid fun B j W hW hR => ⟨B, j, by show _ = Ending.returned (.agg #[.int .i64 (cutI s.rows), .slice B (heldP s (heldN cols)).length j]); rw [heldP_len], hW, hR⟩
  have hN := heldN_le cols
  have eN : nearI cols 16 = (heldN cols : Int) := by
    unfold heldN
    have := nearI_in (n := cols) (high := 16) (by decide)
    omega
  have HNc := Lib.hid (rnear_any cols 16)
  rw [eN] at HNc
  clear hm ra eN
  generalize hNN : heldN cols = N at *
  clear hNN
  generalize HeldF w (heldS s cols) = F at *
  obtain ⟨W0, hW0⟩ : ∃ W0, W0 = ((w.alloc (.cells #[.int .i64 s.rows, .slice A s.cols.length k] 31)).alloc (.cells #[.int .i64 0, .slice none 0 0] 31)).alloc (.cells #[.int .i64 (cutI s.rows), .slice none 0 0] 31) := ⟨_, rfl⟩
  have HI0 : Hid (HeldI w w.heap.size (w.heap.size + 1) (w.heap.size + 2) #[.int .i64 s.rows, .slice A s.cols.length k] #[.int .i64 0, .slice none 0 0] s 0 none 0 [] W0) := Lib.hid (by
    rw [hW0]
    exact ⟨(((Grew.refl w).alloc _).alloc _).alloc _, ((Blok.new _ _ _ _ rfl).alloc _).alloc _, (Blok.new _ _ _ _ (by simp)).alloc _, Blok.new _ _ _ _ (by simp), own_none _ _ _ _, ListR.nil⟩)
  go_enter Try.func14, Try.ntmps14
  go_upto_region 2 with (first | (go_at_call 29; refine (rcut_any _ _).mono ?_; rintro e w' ⟨rfl, rfl⟩))
  rw [← hW0]
  clear hW0
  have hu5 : w.heap.size ≤ w.heap.size + 2 := by omega
  have h05 : w.heap.size < w.heap.size + 2 := by omega
  have h45 : w.heap.size + 1 < w.heap.size + 2 := by omega
  generalize hg5 : w.heap.size + 2 = g5 at *
  generalize hg4 : w.heap.size + 1 = g4 at *
  generalize hg0 : w.heap.size = g0 at *
  go_wp2
  go_loopw [6] (fun v wr => HeldAt w g0 g4 g5 #[.int .i64 s.rows, .slice A s.cols.length k] #[.int .i64 0, .slice none 0 0] s N v wr) (fun v _ => N - (intOf v).toNat)
  case atStart => exact ⟨0, none, 0, [], Nat.zero_le _, rfl, HI0.out⟩
  case round =>
    obtain ⟨i, A', c, css, hi, rfl, hI0⟩ := hrel
    go_wp2_with fail
    refine (HNc.out _).grows.mono ?_
    rintro e ws ⟨rfl, hgs⟩
    have hI := hI0.on hgs
    clear hI0 hgs HI0
    clear wr
    obtain ⟨wr, rfl⟩ : ∃ wr : World, wr = ws := ⟨_, rfl⟩
    have HI := Lib.hid hI
    obtain ⟨x1, x2, x3⟩ := boxS hI.b0
    have hwl := hI.b5.lt
    clear hI
    by_cases h : i < N
    · by_cases h2 : i < s.cols.length
      · obtain ⟨b, o, B, j, rfl, hb0, d0, d1, d2, hcap, hr⟩ := cstsR_at RA.out h2
        have HRw := Lib.hid (fun W (hW : Grew w W) => hr.grew hW)
        have hgw := HI.out.grew
        have hb := Nat.lt_of_lt_of_le hb0 hgw.size
        have c0 := (hgw.cell (a := ⟨b, o + i * 3, none⟩) hb0).trans d0
        have c1 := (hgw.cell (a := ⟨b, o + i * 3 + 1, none⟩) hb0).trans d1
        have c2 := (hgw.cell (a := ⟨b, o + i * 3 + 2, none⟩) hb0).trans d2
        have hX : colAt s i = s.cols[i] := by
          unfold colAt
          rw [List.getD_eq_getElem?_getD, List.getElem?_eq_getElem h2]
          rfl
        have hml := HMl.out _ (List.getElem_mem h2)
        have HX := Lib.hid hX
        clear hX d0 d1 d2 hb0 hr hgw HMl RA HNc HFin
        generalize s.cols[i] = x at *
        obtain ⟨u, n, m⟩ := x
        simp only at *
        go_upto_region 8 with fail
        obtain ⟨w7, hw7e⟩ : ∃ w7, w7 = wr.alloc (.cells #[.int .i64 u, .int .i64 n, .slice B m.length j] 40) := ⟨_, rfl⟩
        have HB7 : Hid (Blok w7 wr.heap.size 40 #[.int .i64 u, .int .i64 n, .slice B m.length j]) := Lib.hid (by rw [hw7e]; exact Blok.new _ _ _ _ rfl)
        have hG7 : Grew wr w7 := by rw [hw7e]; exact (Grew.refl wr).alloc _
        have hs7 : wr.heap.size ≤ wr.heap.size := Nat.le_refl _
        rw [← hw7e]
        clear hw7e c0 c1 c2 x1 x2 x3 hb
        obtain ⟨g7, hg7⟩ : ∃ g7, wr.heap.size = g7 := ⟨_, rfl⟩
        rw [hg7] at HB7 ⊢
        replace hs7 : wr.heap.size ≤ g7 := by omega
        have HG7 : Hid (Grew wr w7) := Lib.hid hG7
        have HI7 := Lib.hid (HI.out.on hG7)
        have hw7 : wr.heap.size ≤ g7 := hs7
        have h57 : g5 ≠ g7 := by have := HI.out.b5.lt; omega
        have h75 : g7 ≠ g5 := by have := HI.out.b5.lt; omega
        have HRc : Hid (heldC (cutI s.rows) (colAt s i) = heldC (cutI s.rows) ⟨u, n, m⟩) := Lib.hid (by rw [HX.out])
        have HSI : Hid (sI (cutI s.rows)) := Lib.hid (cutI_s s.rows)
        obtain ⟨z1, z2, z3, z4, z5⟩ := boxS2 HI7.out.b5
        obtain ⟨y1, y2, y3, y4, y5, y6, y7⟩ := boxC HB7.out
        obtain ⟨rc, hrc⟩ : ∃ rc, cutI s.rows = rc := ⟨_, rfl⟩
        rw [hrc] at z2 HRc HSI HS0
        have HRq := Lib.hid hrc
        clear hrc
        have hnn0 := nearI_in (n := n) HS0.out
        have HN1 := Lib.hid (rnear_any n rc)
        obtain ⟨nn, hnn⟩ : ∃ nn, nearI n rc = nn := ⟨_, rfl⟩
        rw [hnn] at hnn0 HN1
        obtain ⟨d, hd⟩ : ∃ d, rc - nn = d := ⟨_, rfl⟩
        have e3 : IntKind.i64.wrap (rc - nn) = d := by
          rw [← hd]
          exact IntWalk.i64_in _ (by have := HSI.out; unfold sI at this; omega)
        have HN2 := Lib.hid (rnear_any u d)
        have HN3 := Lib.hid (rnear_any (m.length : Int) 9)
        obtain ⟨uu, huu⟩ : ∃ uu, nearI u d = uu := ⟨_, rfl⟩
        rw [huu] at HN2
        obtain ⟨mq, hmq⟩ : ∃ mq, m.take 9 = mq := ⟨_, rfl⟩
        have hml9 : mq.length = min 9 m.length := by rw [← hmq, List.length_take]
        have e6 : nearI (m.length : Int) 9 = (mq.length : Nat) := by
          rw [← near_min _ _ (by decide)]
          omega
        rw [e6] at HN3
        have hmq1 : mq.length ≤ m.length := by omega
        have hqj : (mq.length : Int) ≤ (j : Int) := by omega
        have HC1 : Hid (heldC rc ⟨u, n, m⟩ = ⟨uu, nn, sortI mq⟩) := Lib.hid (by
          unfold heldC
          simp only
          rw [hnn, hd, huu, hmq])
        have HMq : Hid (∀ W, Grew w W → Row W B (iV mq)) := Lib.hid fun W hW => by
          rw [← hmq]
          exact row_takeI (HRw.out W hW) 9
        have hq9 : mq.length ≤ 9 := by omega
        clear hnn0 hnn hd huu hmq hml9 HX HS0 HSI hml e6 HRw
        go_wp2_with fail
        refine (HN1.out w7).grows.mono ?_
        rintro e w8 ⟨rfl, hg8⟩
        have HG8 := Lib.hid (HG7.out.trans hg8)
        have HB8 := Lib.hid (HB7.out.grew hg8)
        have HI8 := Lib.hid (HI7.out.on hg8)
        clear y1 y2 y3 y4 y5 y6 y7 z1 z2 z3 z4 z5 hg8 HB7 HI7 HN1 HG7 hG7
        obtain ⟨y1, y2, y3, y4, y5, y6, y7⟩ := boxC HB8.out
        obtain ⟨z1, z2, z3, z4, z5⟩ := boxS2 HI8.out.b5
        rw [HRq.out] at z2
        go_upto_region 9 with fail
        have HB9 : Hid (Blok (w8.setCell ⟨g7, 1, none⟩ (.int .i64 nn)) g7 40 #[.int .i64 u, .int .i64 nn, .slice B m.length j]) := Lib.hid (by
          have := HB8.out.set 1 (.int .i64 nn)
          simpa using this)
        have HG9 : Hid (Grew wr (w8.setCell ⟨g7, 1, none⟩ (.int .i64 nn))) := Lib.hid (Grew.setCell HG8.out (a := ⟨g7, 1, none⟩) hw7 _)
        have HI9 := Lib.hid (HI.out.on HG9.out)
        clear y1 y2 y3 y4 y5 y6 y7 z1 z2 z3 z4 z5 HB8 HI8 HG8
        generalize (w8.setCell ⟨g7, 1, none⟩ (.int .i64 nn)) = w9 at *
        obtain ⟨y1, y2, y3, y4, y5, y6, y7⟩ := boxC HB9.out
        obtain ⟨z1, z2, z3, z4, z5⟩ := boxS2 HI9.out.b5
        rw [HRq.out] at z2
        go_wp2_with fail
        refine (HN2.out w9).grows.mono ?_
        rintro e w10 ⟨rfl, hg10⟩
        have HG10 := Lib.hid (HG9.out.trans hg10)
        have HB10 := Lib.hid (HB9.out.grew hg10)
        clear y1 y2 y3 y4 y5 y6 y7 z1 z2 z3 z4 z5 hg10 HB9 HI9 HN2 HG9 e3
        obtain ⟨y1, y2, y3, y4, y5, y6, y7⟩ := boxC HB10.out
        go_upto_region 10 with fail
        have HB11 : Hid (Blok (w10.setCell ⟨g7, 0, none⟩ (.int .i64 uu)) g7 40 #[.int .i64 uu, .int .i64 nn, .slice B m.length j]) := Lib.hid (by
          have := HB10.out.set 0 (.int .i64 uu)
          simpa using this)
        have HG11 : Hid (Grew wr (w10.setCell ⟨g7, 0, none⟩ (.int .i64 uu))) := Lib.hid (Grew.setCell HG10.out (a := ⟨g7, 0, none⟩) hw7 _)
        clear y1 y2 y3 y4 y5 y6 y7 HB10 HG10
        generalize (w10.setCell ⟨g7, 0, none⟩ (.int .i64 uu)) = w11 at *
        obtain ⟨y1, y2, y3, y4, y5, y6, y7⟩ := boxC HB11.out
        refine wp_region_more_tail 7 (by kernel_rfl) (by kernel_rfl) ?_
        simp only [List.take_succ_cons, List.take_zero, List.drop_succ_cons, List.drop_zero]
        repeat (go_big_quiet_step (((go_at_call 30; with_reducible exact (HN3.out _).within))))
        refine wpQuiet_nil ?_
        rintro _ ⟨z, rfl⟩
        have HG12 := Lib.hid (HG11.out.more z)
        have HB12 := Lib.hid (HB11.out.more z)
        clear y1 y2 y3 y4 y5 y6 y7 HB11 HG11 HN3
        generalize more w11 z = w12 at *
        obtain ⟨y1, y2, y3, y4, y5, y6, y7⟩ := boxC HB12.out
        go_wp2_with fail
        refine (rsortT_any mq (by omega) B j w12 (HMq.out _ (HI.out.grew.trans HG12.out))).mono ?_
        rintro e w13 ⟨B2, j2, rfl, hj2, hg13, ht13⟩
        have HG13 := Lib.hid (HG12.out.trans hg13)
        have HB13 := Lib.hid (HB12.out.grew hg13)
        have hsz12 := HG12.out.size
        have HT13 := Lib.hid (ht13.low (B' := w.heap.size) (by have := HI.out.grew.size; omega))
        have hsl : (sortI mq).length = mq.length := sortI_len mq
        rw [hsl] at hj2 ⊢
        clear y1 y2 y3 y4 y5 y6 y7 hg13 ht13 HB12 HG12 HMq
        obtain ⟨y1, y2, y3, y4, y5, y6, y7⟩ := boxC HB13.out
        go_upto_region 11 with fail
        have HB14 : Hid (Blok (w13.setCell ⟨g7, 2, none⟩ (.slice B2 mq.length j2)) g7 40 #[.int .i64 uu, .int .i64 nn, .slice B2 mq.length j2]) := Lib.hid (by
          have := HB13.out.set 2 (.slice B2 mq.length j2)
          simpa using this)
        have HG14 : Hid (Grew wr (w13.setCell ⟨g7, 2, none⟩ (.slice B2 mq.length j2))) := Lib.hid (Grew.setCell HG13.out (a := ⟨g7, 2, none⟩) hw7 _)
        have HT14 : Hid (TRow w.heap.size (w13.setCell ⟨g7, 2, none⟩ (.slice B2 mq.length j2)) 3 B2 (iV (sortI mq))) := Lib.hid (HT13.out.apart ((Turns.refl w13 g7).set 2 (.slice B2 mq.length j2)) HB13.out neCS)
        clear y1 y2 y3 y4 y5 y6 y7 HB13 HG13 HT13
        generalize (w13.setCell ⟨g7, 2, none⟩ (.slice B2 mq.length j2)) = w14 at *
        have HI14 := Lib.hid (HI.out.on HG14.out)
        have HX14 : Hid (∀ W, Grew w14 W → CstR (MRow w W) (heldC rc ⟨u, n, m⟩) [.int .i64 uu, .int .i64 nn, .slice B2 mq.length j2]) := Lib.hid fun W hW => by
          rw [HC1.out]
          refine ⟨B2, j2, ?_, ?_, Or.inr (HT14.out.grew hW)⟩
          · show _ = [_, _, Value.slice B2 (sortI mq).length j2]
            rw [sortI_len]
          · show (sortI mq).length ≤ j2
            rw [sortI_len]
            exact hj2
        clear HC1 HT14
        obtain ⟨y1, y2, y3, y4, y5, y6, y7⟩ := boxC HB14.out
        obtain ⟨z1, z2, z3, z4, z5⟩ := boxS2 HI14.out.b5
        have hone : ∀ x ∈ [Value.int .i64 uu, .int .i64 nn, .slice B2 mq.length j2], x.oneCell' = true := by
          intro x hx
          simp at hx
          rcases hx with rfl | rfl | rfl <;> rfl
        have HOne := Lib.hid hone
        have HIa := Lib.hid (HI14.out.on ((Grew.refl w14).alloc (.cells #[.int .i64 uu, .int .i64 nn, .slice B2 mq.length j2] 40)))
        have HXa := Lib.hid (HX14.out _ ((Grew.refl w14).alloc (.cells #[.int .i64 uu, .int .i64 nn, .slice B2 mq.length j2] 40)))
        have hg54 : g5 + 1 ≤ w14.heap.size := z1
        clear hone HX14 HG14 z2
        go_wp2_with (at_builtin; refine wpList_appB rfl _ _ 29 40 3 rfl (g5 + 1) (.agg #[.int .i64 0, .int .i64 0, .slice none 0 0]) 40 Try.underlying29 infoCs rfl (by decide) (by decide) _ i css.flatten rfl HIa.out.own _ 1 1 [.int .i64 uu, .int .i64 nn, .slice B2 mq.length j2] rfl rfl (row_new _ _ _ _ rfl) HOne.out (by omega) (by rw [World.size_alloc]; omega) ?_; intro A6 c6 w6 ho6 hb6; have HI6 := Lib.hid (HIa.out.snoc (by rw [hg0]; exact hu5) h05 h45 (by rw [HRq.out, HRc.out]; exact HXa.out) ho6 hb6); obtain ⟨v1, v2, v3, v4, v5⟩ := boxS2 (HIa.out.b5.grown hb6 (fun e => by have := own_base HIa.out.own _ e; omega)); clear ho6 hb6 v2)
        exact ⟨⟨i + 1, A6, c6, _, by omega, by go_num, HI6.out⟩, by simp only [intOf]; omega⟩
      · have HX : Hid (colAt s i = ⟨0, 0, []⟩) := Lib.hid (by
          unfold colAt
          rw [List.getD_eq_getElem?_getD, List.getElem?_eq_none (by omega)]
          rfl)
        have h2' : (s.cols.length : Int) ≤ i := by omega
        clear HMl RA HNc HFin
        go_upto_region 8 with fail
        obtain ⟨w7, hw7e⟩ : ∃ w7, w7 = wr.alloc (.cells #[.int .i64 0, .int .i64 0, .slice none 0 0] 40) := ⟨_, rfl⟩
        have HB7' : Hid (Blok w7 wr.heap.size 40 #[.int .i64 0, .int .i64 0, .slice none ([] : List Int).length 0]) := Lib.hid (by rw [hw7e]; exact Blok.new _ _ _ _ rfl)
        have hG7 : Grew wr w7 := by rw [hw7e]; exact (Grew.refl wr).alloc _
        have HRw' : Hid (∀ W, Grew w W → Row W none (iV [])) := Lib.hid fun W _ => Or.inl rfl
        rw [← hw7e]
        clear hw7e x1 x2 x3
        obtain ⟨g7, hg7⟩ : ∃ g7, wr.heap.size = g7 := ⟨_, rfl⟩
        rw [hg7] at HB7' ⊢
        have hs7 : wr.heap.size ≤ g7 := by omega
        obtain ⟨u, n, m, B, j, HB7, HX, HRw, hcap, hml⟩ : ∃ (u n : Int) (m : List Int) (B : Option Addr) (j : Nat), ∃ (_ : Hid (Blok w7 g7 40 #[.int .i64 u, .int .i64 n, .slice B m.length j])) (_ : Hid (colAt s i = ⟨u, n, m⟩)) (_ : Hid (∀ W, Grew w W → Row W B (iV m))), m.length ≤ j ∧ m.length ≤ 1000000 := ⟨0, 0, [], none, 0, HB7', HX, HRw', Nat.le_refl _, Nat.zero_le _⟩
        clear HB7' HRw'
        have HG7 : Hid (Grew wr w7) := Lib.hid hG7
        have HI7 := Lib.hid (HI.out.on hG7)
        have hw7 : wr.heap.size ≤ g7 := hs7
        have h57 : g5 ≠ g7 := by have := HI.out.b5.lt; omega
        have h75 : g7 ≠ g5 := by have := HI.out.b5.lt; omega
        have HRc : Hid (heldC (cutI s.rows) (colAt s i) = heldC (cutI s.rows) ⟨u, n, m⟩) := Lib.hid (by rw [HX.out])
        have HSI : Hid (sI (cutI s.rows)) := Lib.hid (cutI_s s.rows)
        obtain ⟨z1, z2, z3, z4, z5⟩ := boxS2 HI7.out.b5
        obtain ⟨y1, y2, y3, y4, y5, y6, y7⟩ := boxC HB7.out
        obtain ⟨rc, hrc⟩ : ∃ rc, cutI s.rows = rc := ⟨_, rfl⟩
        rw [hrc] at z2 HRc HSI HS0
        have HRq := Lib.hid hrc
        clear hrc
        have hnn0 := nearI_in (n := n) HS0.out
        have HN1 := Lib.hid (rnear_any n rc)
        obtain ⟨nn, hnn⟩ : ∃ nn, nearI n rc = nn := ⟨_, rfl⟩
        rw [hnn] at hnn0 HN1
        obtain ⟨d, hd⟩ : ∃ d, rc - nn = d := ⟨_, rfl⟩
        have e3 : IntKind.i64.wrap (rc - nn) = d := by
          rw [← hd]
          exact IntWalk.i64_in _ (by have := HSI.out; unfold sI at this; omega)
        have HN2 := Lib.hid (rnear_any u d)
        have HN3 := Lib.hid (rnear_any (m.length : Int) 9)
        obtain ⟨uu, huu⟩ : ∃ uu, nearI u d = uu := ⟨_, rfl⟩
        rw [huu] at HN2
        obtain ⟨mq, hmq⟩ : ∃ mq, m.take 9 = mq := ⟨_, rfl⟩
        have hml9 : mq.length = min 9 m.length := by rw [← hmq, List.length_take]
        have e6 : nearI (m.length : Int) 9 = (mq.length : Nat) := by
          rw [← near_min _ _ (by decide)]
          omega
        rw [e6] at HN3
        have hmq1 : mq.length ≤ m.length := by omega
        have hqj : (mq.length : Int) ≤ (j : Int) := by omega
        have HC1 : Hid (heldC rc ⟨u, n, m⟩ = ⟨uu, nn, sortI mq⟩) := Lib.hid (by
          unfold heldC
          simp only
          rw [hnn, hd, huu, hmq])
        have HMq : Hid (∀ W, Grew w W → Row W B (iV mq)) := Lib.hid fun W hW => by
          rw [← hmq]
          exact row_takeI (HRw.out W hW) 9
        have hq9 : mq.length ≤ 9 := by omega
        clear hnn0 hnn hd huu hmq hml9 HX HS0 HSI hml e6 HRw
        go_wp2_with fail
        refine (HN1.out w7).grows.mono ?_
        rintro e w8 ⟨rfl, hg8⟩
        have HG8 := Lib.hid (HG7.out.trans hg8)
        have HB8 := Lib.hid (HB7.out.grew hg8)
        have HI8 := Lib.hid (HI7.out.on hg8)
        clear y1 y2 y3 y4 y5 y6 y7 z1 z2 z3 z4 z5 hg8 HB7 HI7 HN1 HG7 hG7
        obtain ⟨y1, y2, y3, y4, y5, y6, y7⟩ := boxC HB8.out
        obtain ⟨z1, z2, z3, z4, z5⟩ := boxS2 HI8.out.b5
        rw [HRq.out] at z2
        go_upto_region 9 with fail
        have HB9 : Hid (Blok (w8.setCell ⟨g7, 1, none⟩ (.int .i64 nn)) g7 40 #[.int .i64 u, .int .i64 nn, .slice B m.length j]) := Lib.hid (by
          have := HB8.out.set 1 (.int .i64 nn)
          simpa using this)
        have HG9 : Hid (Grew wr (w8.setCell ⟨g7, 1, none⟩ (.int .i64 nn))) := Lib.hid (Grew.setCell HG8.out (a := ⟨g7, 1, none⟩) hw7 _)
        have HI9 := Lib.hid (HI.out.on HG9.out)
        clear y1 y2 y3 y4 y5 y6 y7 z1 z2 z3 z4 z5 HB8 HI8 HG8
        generalize (w8.setCell ⟨g7, 1, none⟩ (.int .i64 nn)) = w9 at *
        obtain ⟨y1, y2, y3, y4, y5, y6, y7⟩ := boxC HB9.out
        obtain ⟨z1, z2, z3, z4, z5⟩ := boxS2 HI9.out.b5
        rw [HRq.out] at z2
        go_wp2_with fail
        refine (HN2.out w9).grows.mono ?_
        rintro e w10 ⟨rfl, hg10⟩
        have HG10 := Lib.hid (HG9.out.trans hg10)
        have HB10 := Lib.hid (HB9.out.grew hg10)
        clear y1 y2 y3 y4 y5 y6 y7 z1 z2 z3 z4 z5 hg10 HB9 HI9 HN2 HG9 e3
        obtain ⟨y1, y2, y3, y4, y5, y6, y7⟩ := boxC HB10.out
        go_upto_region 10 with fail
        have HB11 : Hid (Blok (w10.setCell ⟨g7, 0, none⟩ (.int .i64 uu)) g7 40 #[.int .i64 uu, .int .i64 nn, .slice B m.length j]) := Lib.hid (by
          have := HB10.out.set 0 (.int .i64 uu)
          simpa using this)
        have HG11 : Hid (Grew wr (w10.setCell ⟨g7, 0, none⟩ (.int .i64 uu))) := Lib.hid (Grew.setCell HG10.out (a := ⟨g7, 0, none⟩) hw7 _)
        clear y1 y2 y3 y4 y5 y6 y7 HB10 HG10
        generalize (w10.setCell ⟨g7, 0, none⟩ (.int .i64 uu)) = w11 at *
        obtain ⟨y1, y2, y3, y4, y5, y6, y7⟩ := boxC HB11.out
        refine wp_region_more_tail 7 (by kernel_rfl) (by kernel_rfl) ?_
        simp only [List.take_succ_cons, List.take_zero, List.drop_succ_cons, List.drop_zero]
        repeat (go_big_quiet_step (((go_at_call 30; with_reducible exact (HN3.out _).within))))
        refine wpQuiet_nil ?_
        rintro _ ⟨z, rfl⟩
        have HG12 := Lib.hid (HG11.out.more z)
        have HB12 := Lib.hid (HB11.out.more z)
        clear y1 y2 y3 y4 y5 y6 y7 HB11 HG11 HN3
        generalize more w11 z = w12 at *
        obtain ⟨y1, y2, y3, y4, y5, y6, y7⟩ := boxC HB12.out
        go_wp2_with fail
        refine (rsortT_any mq (by omega) B j w12 (HMq.out _ (HI.out.grew.trans HG12.out))).mono ?_
        rintro e w13 ⟨B2, j2, rfl, hj2, hg13, ht13⟩
        have HG13 := Lib.hid (HG12.out.trans hg13)
        have HB13 := Lib.hid (HB12.out.grew hg13)
        have hsz12 := HG12.out.size
        have HT13 := Lib.hid (ht13.low (B' := w.heap.size) (by have := HI.out.grew.size; omega))
        have hsl : (sortI mq).length = mq.length := sortI_len mq
        rw [hsl] at hj2 ⊢
        clear y1 y2 y3 y4 y5 y6 y7 hg13 ht13 HB12 HG12 HMq
        obtain ⟨y1, y2, y3, y4, y5, y6, y7⟩ := boxC HB13.out
        go_upto_region 11 with fail
        have HB14 : Hid (Blok (w13.setCell ⟨g7, 2, none⟩ (.slice B2 mq.length j2)) g7 40 #[.int .i64 uu, .int .i64 nn, .slice B2 mq.length j2]) := Lib.hid (by
          have := HB13.out.set 2 (.slice B2 mq.length j2)
          simpa using this)
        have HG14 : Hid (Grew wr (w13.setCell ⟨g7, 2, none⟩ (.slice B2 mq.length j2))) := Lib.hid (Grew.setCell HG13.out (a := ⟨g7, 2, none⟩) hw7 _)
        have HT14 : Hid (TRow w.heap.size (w13.setCell ⟨g7, 2, none⟩ (.slice B2 mq.length j2)) 3 B2 (iV (sortI mq))) := Lib.hid (HT13.out.apart ((Turns.refl w13 g7).set 2 (.slice B2 mq.length j2)) HB13.out neCS)
        clear y1 y2 y3 y4 y5 y6 y7 HB13 HG13 HT13
        generalize (w13.setCell ⟨g7, 2, none⟩ (.slice B2 mq.length j2)) = w14 at *
        have HI14 := Lib.hid (HI.out.on HG14.out)
        have HX14 : Hid (∀ W, Grew w14 W → CstR (MRow w W) (heldC rc ⟨u, n, m⟩) [.int .i64 uu, .int .i64 nn, .slice B2 mq.length j2]) := Lib.hid fun W hW => by
          rw [HC1.out]
          refine ⟨B2, j2, ?_, ?_, Or.inr (HT14.out.grew hW)⟩
          · show _ = [_, _, Value.slice B2 (sortI mq).length j2]
            rw [sortI_len]
          · show (sortI mq).length ≤ j2
            rw [sortI_len]
            exact hj2
        clear HC1 HT14
        obtain ⟨y1, y2, y3, y4, y5, y6, y7⟩ := boxC HB14.out
        obtain ⟨z1, z2, z3, z4, z5⟩ := boxS2 HI14.out.b5
        have hone : ∀ x ∈ [Value.int .i64 uu, .int .i64 nn, .slice B2 mq.length j2], x.oneCell' = true := by
          intro x hx
          simp at hx
          rcases hx with rfl | rfl | rfl <;> rfl
        have HOne := Lib.hid hone
        have HIa := Lib.hid (HI14.out.on ((Grew.refl w14).alloc (.cells #[.int .i64 uu, .int .i64 nn, .slice B2 mq.length j2] 40)))
        have HXa := Lib.hid (HX14.out _ ((Grew.refl w14).alloc (.cells #[.int .i64 uu, .int .i64 nn, .slice B2 mq.length j2] 40)))
        have hg54 : g5 + 1 ≤ w14.heap.size := z1
        clear hone HX14 HG14 z2
        go_wp2_with (at_builtin; refine wpList_appB rfl _ _ 29 40 3 rfl (g5 + 1) (.agg #[.int .i64 0, .int .i64 0, .slice none 0 0]) 40 Try.underlying29 infoCs rfl (by decide) (by decide) _ i css.flatten rfl HIa.out.own _ 1 1 [.int .i64 uu, .int .i64 nn, .slice B2 mq.length j2] rfl rfl (row_new _ _ _ _ rfl) HOne.out (by omega) (by rw [World.size_alloc]; omega) ?_; intro A6 c6 w6 ho6 hb6; have HI6 := Lib.hid (HIa.out.snoc (by rw [hg0]; exact hu5) h05 h45 (by rw [HRq.out, HRc.out]; exact HXa.out) ho6 hb6); obtain ⟨v1, v2, v3, v4, v5⟩ := boxS2 (HIa.out.b5.grown hb6 (fun e => by have := own_base HIa.out.own _ e; omega)); clear ho6 hb6 v2)
        exact ⟨⟨i + 1, A6, c6, _, by omega, by go_num, HI6.out⟩, by simp only [intOf]; omega⟩
    · obtain rfl : i = N := by omega
      have HD := Lib.hid (HI.out.res (by rw [hg0]; omega) h45 (.int .i64 (cutI s.rows)) (.slice A' i c))
      have HE := Lib.hid (HFin.out A' c _ HD.out.1 HD.out.2)
      obtain ⟨z1, z2, z3, z4, z5⟩ := boxS2 HI.out.b5
      obtain ⟨y1, y2, y3, y4, y5⟩ := boxS2 HI.out.b4
      have HB4 := Lib.hid HI.out.b4
      clear HFin HMl RA HNc x1 x2 x3 HD
      go_wp2
      have bf := (HB4.out.set 0 (.int .i64 (cutI s.rows))).set 1 (.slice A' i c)
      have q0 := bf.cell 0
      have q1 := bf.cell 1
      simp at q0 q1
      exact bodyPost_ret (v := .agg #[.int .i64 (cutI s.rows), .slice A' i c]) (by simp [results, Try.results14, go_sem, q0, q1]) rfl HE.out
end Go.Proofs.Ytdohfbpjmnhhmaa
