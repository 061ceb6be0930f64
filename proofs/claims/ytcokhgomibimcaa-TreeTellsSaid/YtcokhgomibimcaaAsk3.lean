/- Layer 39: a way to ask is read. -/
import Derived.Test.YtcokhgomibimcaaAsk2
namespace Go.Proofs.Ytcokhgomibimcaa
open Go.RowKit
attribute [local go_sem] more_cell more_frozen more_more more_setCell more_of_drew more_of_drewN lt_more le_more past_cell past_cell2 past_frozen past_frozen2 past_setCell past_setCell2 mid_cell mid_frozen mid_setCell
attribute [local go_sem ↓] Go.wp_at_zero Go.wp_at_succ

def askCs (stats : Value) (f : Bool) (o : OptS) (picks : Value) : Array Value := #[stats, .bool f, .int .i64 o.o0, .int .i64 o.o1, .int .i64 o.o2, .int .i64 o.o3, .int .i64 o.o4, .int .i64 o.o5, picks]
def zeroCs : Array Value := #[.slice none 0 0, .bool false, .int .i64 0, .int .i64 0, .int .i64 0, .int .i64 0, .int .i64 0, .int .i64 0, .slice none 0 0]
def GetT (w : World) (r : AskS × Int) (e : Ending) (w' : World) : Prop := ∃ v, e = .returned (.tuple #[v, .int .i64 r.2]) ∧ AskR (TRow w.heap.size w') r.1 v ∧ Grew w w'
/-- While tables are read: they lie above B, block b tells where. -/
def StatsAt (u : World) (g b B : Nat) (f : Bool) (o : OptS) (P : Option Addr) (pk : List Int) (pc k : Nat) (s : St) (i : Value) (wr : World) : Prop :=
  ∃ (j : Nat) (A : Option Addr) (c : Nat) (css : List (List Value)), j ≤ k ∧ i = .int .i64 j ∧ Blok wr b 39 (askCs (.slice A j c) f o (.slice P pk.length pc)) ∧ ListR (StatR (TRow B wr)) 2 (statsS j s).1 css ∧ wr.ownsRow B 97 2 (.slice A j c) j css.flatten ∧ TRow (g + 1) wr 3 P (iV pk) ∧ LeftIs u wr g (statsS j s).2.1 (statsS j s).2.2 ∧ B ≤ wr.heap.size
set_option maxHeartbeats 4000000 in
set_option maxRecDepth 100000 in
theorem get_any (l : List Nat) (A : Option Addr) (c : Nat) (hc : l.length ≤ c) (hl : l.length ≤ 1000000) (hx : bytesOk l) (w : World) (hr : Row w A (bV l)) :
    Calls Try.prog 27 #[.slice A l.length c] w (GetT w (getA l)) := by
  obtain ⟨w0, hw0⟩ : ∃ w0, w.alloc (.cells zeroCs 39) = w0 := ⟨_, rfl⟩
  have hg0 : Grew w w0 := by rw [← hw0]; exact (Grew.refl w).alloc _
  have hs0 : w0.heap.size = w.heap.size + 1 := by rw [← hw0]; simp
  have HB0 : Hid (Blok w0 w.heap.size 39 zeroCs) := Lib.hid (by rw [← hw0]; exact Blok.new w _ _ _ rfl)
  have HFrom : Hid (Calls Try.prog 98 #[.slice A l.length c, .int .i64 0] w0 (FromF w0 l 0)) := Lib.hid (from_any l A c 0 hc hl w0 (hr.grew hg0))
  have HN : Hid (∀ t W g, Less (l, false) t → LeftIs w0 W g t.1 t.2 → Calls Try.prog 99 #[.pointer (some ⟨g, 0, none⟩)] W (NumT w0 W g (numS t).1 (numS t).2)) := Lib.hid fun t W g h1 h2 => number_to w0 g t (Nat.le_trans h1.len hl) (h1.ok hx) W h2
  have HO : Hid (∀ t W g, Less (l, false) t → LeftIs w0 W g t.1 t.2 → Calls Try.prog 104 #[.pointer (some ⟨g, 0, none⟩)] W (OptT w0 W g (optS t).1 (optS t).2)) := Lib.hid fun t W g h1 h2 => opts_to w0 g t (Nat.le_trans h1.len hl) (h1.ok hx) W h2
  have HI : Hid (∀ t W g, Less (l, false) t → LeftIs w0 W g t.1 t.2 → Calls Try.prog 100 #[.pointer (some ⟨g, 0, none⟩)] W (IntsT w0 W g (intsS t).1 (intsS t).2)) := Lib.hid fun t W g h1 h2 => ints_to w0 g t (Nat.le_trans h1.len hl) (h1.ok hx) W h2
  have HC : Hid (∀ t W g, Less (l, false) t → LeftIs w0 W g t.1 t.2 → Calls Try.prog 105 #[.pointer (some ⟨g, 0, none⟩)] W (NumT w0 W g (cntS t).1 (cntS t).2)) := Lib.hid fun t W g h1 h2 => count_to w0 g t (Nat.le_trans h1.len hl) (h1.ok hx) W h2
  have HT : Hid (∀ t W g, Less (l, false) t → LeftIs w0 W g t.1 t.2 → Calls Try.prog 106 #[.pointer (some ⟨g, 0, none⟩)] W (StatT w0 W g (statS t).1 (statS t).2)) := Lib.hid fun t W g h1 h2 => stat_to w0 g t (Nat.le_trans h1.len hl) (h1.ok hx) W h2
  have E0 : Hid (leftS l 0 = (l, false)) := Lib.hid (leftS_in (p := 0) (Nat.zero_le _))
  have E1 : Hid (forceS (l, false) = if (numS (l, false)).1 ≠ 0 ∧ (numS (l, false)).1 ≠ 1 then ((numS (l, false)).1, failS) else ((numS (l, false)).1, (numS (l, false)).2)) := Lib.hid rfl
  have L1 := less_force (l, false)
  have L2 := L1.trans (less_opt _)
  have L3 := L2.trans (less_ints _)
  have L4 := Lib.hid (L3.trans (less_cnt _))
  have hk := Nat.le_trans (cntS_left (intsS (optS (forceS (l, false)).2).2).2).2.2 (Nat.le_trans L4.out.len hl)
  have EG : Hid (getA l = if (g5 l).2.2 = true ∨ 0 < (g5 l).2.1.length then (askZ, 7) else (⟨(g5 l).1, decide ((g1 l).1 = 1), (g2 l).1, (g3 l).1⟩, 0)) := Lib.hid (by unfold getA; rw [getS_eq])
  have EG5 := Lib.hid (g5_eq l)
  rw [g5_eq l, g4_eq l, g3_eq l, g2_eq l, g1_eq l] at EG
  have CN := Lib.hid (HN.out (l, false) · · (Less.refl _))
  have CO := Lib.hid (HO.out _ · · L1)
  have CI := Lib.hid (HI.out _ · · L2)
  have CC := Lib.hid (HC.out _ · · L3)
  clear L1 L2 L3 HN HO HI HC EG5 hr hx
  generalize getA l = r at *
  generalize forceS (l, false) = f1 at *
  obtain ⟨v, s1⟩ := f1
  generalize optS s1 = o1 at *
  obtain ⟨o, s2⟩ := o1
  generalize intsS s2 = p1 at *
  obtain ⟨pk, s3⟩ := p1
  generalize cntS s3 = c1 at *
  obtain ⟨k, s4⟩ := c1
  generalize numS (l, false) = n0 at *
  obtain ⟨v0, sn⟩ := n0
  simp only at hk
  have HG0 := Lib.hid hg0
  have HS0 := Lib.hid hs0
  clear hg0 hs0
  subst hw0
  go_enter Try.func27, Try.ntmps27
  go_wp2_with fail
  refine HFrom.out.mono ?_
  rintro e w1 ⟨g, rfl, h1⟩
  rw [E0.out] at h1
  have H1 := Lib.hid h1
  have hlow : w.heap.size < g := by have h := h1.some_low; have h2 := HS0.out; omega
  clear h1
  go_wp2_with fail
  refine (CN.out _ _ H1.out).mono ?_
  rintro e w2 ⟨rfl, h2, t2⟩
  have H2 := Lib.hid h2
  obtain ⟨A2, hb2⟩ := h2.blok
  have B2 := Lib.hid hb2
  clear h2 t2 hb2
  have hv : v = v0 := by
    have h := E1.out
    split at h
    · injection h with h _
    · injection h with h _
  subst hv
  have hcase : ((v != 0) = true ∧ (v != 1) = true ∧ s1 = failS) ∨ ((v != 0) = false ∧ s1 = sn) ∨ ((v != 0) = true ∧ (v != 1) = false ∧ s1 = sn) := by
    have h := E1.out
    by_cases h0 : v = 0
    · rw [if_neg (by simp [h0])] at h
      injection h with _ h
      exact Or.inr (Or.inl ⟨by simp [h0], h⟩)
    · by_cases h1 : v = 1
      · rw [if_neg (by simp [h1])] at h
        injection h with _ h
        exact Or.inr (Or.inr ⟨by simp [h0], by simp [h1], h⟩)
      · rw [if_pos ⟨h0, h1⟩] at h
        injection h with _ h
        exact Or.inl ⟨by simp [h0], by simp [h1], h⟩
  clear E1 HFrom CN E0 H1
  rcases hcase with ⟨n0, n1, hs⟩ | ⟨n0, hs⟩ | ⟨n0, n1, hs⟩
  · have E2 := Lib.hid hs
    clear hs
    go_upto_region 5 with (go_at_call 103; refine (fail_any g _ _ _ B2.out).mono ?_; rintro e w3 ⟨rfl, hb3, ht3⟩; have HB3 := Lib.hid hb3; have HT3 := Lib.hid ht3; clear hb3 ht3)
    have H3 : Hid (LeftIs (w.alloc (.cells zeroCs 39)) w3 g s1.1 s1.2) := Lib.hid (by rw [E2.out]; exact H2.out.fails HB3.out HT3.out)
    clear n0 n1 E2 HB3 HT3 H2 B2
    go_wp2_with fail
    refine (CO.out _ _ H3.out).mono ?_
    rintro e w4 ⟨rfl, h4, t4⟩
    have H4 := Lib.hid h4
    clear h4 t4 H3
    simp only [optsV]
    go_wp2_with fail
    refine (CI.out _ _ H4.out).mono ?_
    rintro e w5 ⟨A5, c5, rfl, ho5, h5, t5⟩
    have H5 := Lib.hid h5
    have HO5 := Lib.hid ho5
    have hs4 := H4.out.lt
    have hs5 : g + 1 ≤ w4.heap.size := hs4
    clear h5 ho5 t5 H4
    go_wp2_with fail
    refine (CC.out _ _ (H5.out.alloc _)).mono ?_
    rintro e w6 ⟨rfl, h6, t6⟩
    have H6 := Lib.hid h6
    have T6 := Lib.hid t6
    clear h6 t6
    go_wp2_with fail
    have hw6 := T6.out.size
    simp at hw6
    have hg4 : g < w5.heap.size := H5.out.lt
    have HA : Hid (StatsAt (w.alloc (.cells zeroCs 39)) g w5.heap.size w6.heap.size (v == 1) o A5 pk c5 k s4 (.int .i64 0) w6) := Lib.hid
      ⟨0, none, 0, [], Nat.zero_le _, rfl, (Blok.new w5 _ (askCs (.slice none 0 0) (v == 1) o (.slice A5 pk.length c5)) _ rfl).turns T6.out (by omega), ListR.nil, own_none _ _ _ _,
        (((TRow.own HO5.out).low hs5).grew ((Grew.refl w5).alloc _)).turns T6.out (by omega), H6.out, Nat.le_refl _⟩
    have hb1 : g < w5.heap.size := hg4
    have hb2 : w5.heap.size < w6.heap.size := by omega
    clear T6 H6 HO5 H5 hw6 hs4 hs5 hg4
    generalize w5.heap.size = b at *
    generalize w6.heap.size = B at *
    go_loopw [28] (fun i wr => StatsAt (w.alloc (.cells zeroCs 39)) g b B (v == 1) o A5 pk c5 k s4 i wr) (fun i _ => k - (intOf i).toNat)
    case atStart => exact HA.out
    case round =>
      clear HA CO CI CC
      obtain ⟨j, A7, c7, css, hj, rfl, hb, hcs, ho, hP, hL, hBs⟩ := hrel
      have HBb := Lib.hid hb
      have HCs := Lib.hid hcs
      have HO := Lib.hid ho
      have HP := Lib.hid hP
      have HL := Lib.hid hL
      have HBs := Lib.hid hBs
      clear hb hcs ho hP hL hBs
      by_cases h : j < k
      · have N1 := Lib.hid (HT.out (statsS j s4).2 wr.drew g (L4.out.trans (less_stats j s4)) (HL.out.grow (Grew.refl _).drew))
        have HStep : Hid (statsS (j + 1) s4 = ((statsS j s4).1 ++ [(statS (statsS j s4).2).1], (statS (statsS j s4).2).2)) := Lib.hid rfl
        generalize statS (statsS j s4).2 = m1 at *
        obtain ⟨x, s5⟩ := m1
        go_upto_region 8 with fail
        have hS0 : Blok wr.drew b 39 (askCs (.slice A7 j c7) (v == 1) o (.slice A5 pk.length c5)) := HBb.out.grew (Grew.refl _).drew
        refine wp_region_last (fun W => Blok W b 39 (askCs (.slice A7 j c7) (v == 1) o (.slice A5 pk.length c5))) 7 rfl (by kernel_rfl) ?_
        refine last_take 0 (v := ?_) rfl (by kernel_rfl) (by kernel_rfl) (by kernel_rfl) (by kernel_rfl) (fun _ _ _ h => h) (by rfl) ?_ hS0 ?_
        rotate_left
        · (intro W hW; go_simp; with_reducible rfl)
        refine last_take 2 (v := ?_) rfl (by kernel_rfl) (by kernel_rfl) (by kernel_rfl) (by kernel_rfl) (fun _ _ _ h => h) (by rfl) ?_ hS0 ?_
        rotate_left
        · (intro W hW; go_simp; with_reducible rfl)
        refine last_norm (a' := ?_) ?_ ?_
        rotate_left
        · (go_simp; with_reducible rfl)
        refine last_take 1 (v := ?_) rfl (by kernel_rfl) (by kernel_rfl) (by kernel_rfl) (by kernel_rfl) (fun _ _ _ h => h) (by rfl) ?_ hS0 ?_
        rotate_left
        · (intro W hW; have q := hW.cell 0; simp [askCs] at q; go_simp; with_reducible rfl)
        refine last_norm (a' := ?_) ?_ ?_
        rotate_left
        · (go_simp; with_reducible rfl)
        refine last_call 3 (by kernel_rfl) (by kernel_rfl) rfl (by rfl) (fun K hK => ?_)
        go_simp
        go_wp2_with (go_at_call 106; (with_reducible refine N1.out.mono ?_); rintro e w8 ⟨A8, k8, rfl, hc8, h8, t8⟩; have H8 := Lib.hid h8; have T8 := Lib.hid t8; have HC8 := Lib.hid hc8; have hS8 := hS0.turns t8 (by omega); clear h8 t8 hc8)
        refine hK.out _ _ hS8 ?_
        clear hK K
        have hrow : ∀ i, (Value.slice A7 j c7).ownBlock = some i → B ≤ i := own_base HO.out
        have HOw := Lib.hid (own_turns (own_grew HO.out (Grew.refl wr).drew) T8.out (by omega))
        have hszd : B ≤ wr.drew.heap.size := HBs.out
        have hszB : B ≤ w8.heap.size := by have := T8.out.size; omega
        refine last_call 4 (by kernel_rfl) (by kernel_rfl) rfl (by rfl) (fun K hK => ?_)
        go_simp
        go_wp2_with fail
        refine hK.out _ _ (hS8.alloc _) ?_
        clear hK K
        refine last_call 5 (by kernel_rfl) (by kernel_rfl) rfl (by rfl) (fun K hK => ?_)
        refine wp_appB (.tmp 31) (.tmp 34) 35 97 2 rfl B (.agg #[.int .i64 0, .slice none 0 0]) 32 Try.underlying35 infoT rfl (by decide) (by decide) _ j _ rfl (own_alloc HOw.out _) _ 1 1 [.int .i64 x.rows, .slice A8 x.cols.length k8] rfl rfl (row_new _ _ _ #[.int .i64 x.rows, .slice A8 x.cols.length k8] rfl) (by simp; exact ⟨rfl, rfl⟩) (by omega) (by simp; omega) ?_
        intro A9 c9 w9 ho9 hg9
        have hS9 : Blok w9 b 39 (askCs (.slice A7 j c7) (v == 1) o (.slice A5 pk.length c5)) := (hS8.alloc _).grown hg9 (fun e => by have := hrow b e; omega)
        refine hK.out _ _ hS9 ?_
        clear hK K
        refine last_take 6 (v := ?_) rfl (by kernel_rfl) (by kernel_rfl) (by kernel_rfl) (by kernel_rfl) (fun _ _ _ h => h) (by rfl) ?_ hS9 ?_
        rotate_left
        · (intro W hW; go_simp; with_reducible rfl)
        refine last_norm (a' := ?_) ?_ ?_
        rotate_left
        · (go_simp; with_reducible rfl)
        have d0 := hS9.cell 0
        have z0 := hS9.thaw 0
        simp [askCs] at d0
        refine last_last (by kernel_rfl) (by kernel_rfl) rfl (by rfl) (fun K hK => ?_)
        go_simp
        go_wp2_with fail
        refine hK.out _ _ ?_
        clear hK K
        go_wp2
        have hTs : Turns w9 (w9.setCell ⟨b, 0, none⟩ (.slice A9 (j + 1) c9)) b := (Turns.refl w9 b).set 0 _
        have K1 : ∀ e A xs, e = 3 ∨ e = 101 → TRow B w8 e A xs → TRow B (w9.setCell ⟨b, 0, none⟩ (.slice A9 (j + 1) c9)) e A xs := fun e A xs he h =>
          ((h.grew ((Grew.refl w8).alloc _)).grown (own_alloc HOw.out _) (by rcases he with rfl | rfl <;> decide) hg9).turns hTs hb2
        refine ⟨⟨j + 1, A9, c9, css ++ [[.int .i64 x.rows, .slice A8 x.cols.length k8]], by omega, by go_num, ?_, ?_, ?_, ?_, ?_, ?_⟩, by simp only [intOf]; omega⟩
        · have h := hS9.set 0 (.slice A9 (j + 1) c9)
          simpa [askCs] using h
        · rw [HStep.out]
          exact (HCs.out.map (fun x cs h => h.map (fun e A xs he h => K1 e A xs he ((h.grew (Grew.refl wr).drew).turns T8.out (by omega))))).snoc ⟨A8, k8, rfl, HC8.out.map (fun e A xs he h => K1 e A xs he (h.low hszd))⟩ rfl
        · have e : (css ++ [[Value.int .i64 x.rows, Value.slice A8 x.cols.length k8]]).flatten = css.flatten ++ [Value.int .i64 x.rows, Value.slice A8 x.cols.length k8] := by simp
          rw [e]
          exact own_turns ho9 hTs hb2
        · exact ((((HP.out.grew (Grew.refl wr).drew).turns T8.out (by omega)).grew ((Grew.refl w8).alloc _)).grown (own_alloc HOw.out _) (by decide) hg9).apart hTs hS9 (by decide)
        · rw [HStep.out]
          exact ((H8.out.alloc _).grown hg9 (fun i hi => by have := hrow i hi; omega)).turns hTs hb1
        · have h1 := hTs.size
          have h2 := hg9.size
          simp at h2
          omega
      · obtain rfl : j = k := by omega
        have hcl := statsS_len j s4
        generalize statsS j s4 = st at *
        obtain ⟨ts, sl, sf⟩ := st
        simp only at hcl
        have HCl := Lib.hid hcl
        clear hcl HT
        obtain ⟨AL, hbl⟩ := HL.out.blok
        have c0 := hbl.cell 0
        have c1 := hbl.cell 1
        have R0 := Lib.hid (HB0.out.grew HL.out.grew)
        have HGr := Lib.hid (HG0.out.trans HL.out.grew)
        have hltb := HBb.out.lt
        have hltr := R0.out.lt
        have e0 := HBb.out.cell 0
        have e1 := HBb.out.cell 1
        have e2 := HBb.out.cell 2
        have e3 := HBb.out.cell 3
        have e4 := HBb.out.cell 4
        have e5 := HBb.out.cell 5
        have e6 := HBb.out.cell 6
        have e7 := HBb.out.cell 7
        have e8 := HBb.out.cell 8
        have d0 := R0.out.cell 0
        have d1 := R0.out.cell 1
        have d2 := R0.out.cell 2
        have d3 := R0.out.cell 3
        have d4 := R0.out.cell 4
        have d5 := R0.out.cell 5
        have d6 := R0.out.cell 6
        have d7 := R0.out.cell 7
        have d8 := R0.out.cell 8
        have z0 := R0.out.thaw 0
        have z1 := R0.out.thaw 1
        have z2 := R0.out.thaw 2
        have z3 := R0.out.thaw 3
        have z4 := R0.out.thaw 4
        have z5 := R0.out.thaw 5
        have z6 := R0.out.thaw 6
        have z7 := R0.out.thaw 7
        have z8 := R0.out.thaw 8
        simp [askCs, zeroCs] at c0 c1 e0 e1 e2 e3 e4 e5 e6 e7 e8 d0 d1 d2 d3 d4 d5 d6 d7 d8
        clear hbl
        have HB3 : w.heap.size < B := by omega
        by_cases hbad : sf = true ∨ 0 < sl.length
        · have HR : Hid (r = (askZ, 7)) := Lib.hid (by rw [EG.out, if_pos hbad])
          have hcases : sf = true ∨ (sf = false ∧ 0 < sl.length) := by cases sf <;> simp_all
          clear hbad
          rcases hcases with rfl | ⟨rfl, hpos⟩
          all_goals
            go_wp2
            refine bodyPost_ret (v := .tuple #[.agg #[.slice none 0 0, .bool false, .int .i64 0, .int .i64 0, .int .i64 0, .int .i64 0, .int .i64 0, .int .i64 0, .slice none 0 0], .int .i64 7]) (by simp [results, Try.results27, go_sem, d0, d1, d2, d3, d4, d5, d6, d7, d8]) rfl ?_
            rw [HR.out]
            refine ⟨_, rfl, ⟨none, 0, none, 0, rfl, ⟨[], ListR.nil, Or.inl rfl⟩, Or.inl rfl⟩, ?_⟩
            exact ((((((((((Turns.refl wr w.heap.size).set 0 _).set 1 _).set 2 _).set 3 _).set 4 _).set 5 _).set 6 _).set 7 _).set 8 _).below HGr.out (Nat.le_refl _)
        · have HR : Hid (r = (⟨ts, decide (v = 1), o, pk⟩, 0)) := Lib.hid (by rw [EG.out, if_neg hbad])
          obtain rfl : sf = false := by cases sf <;> simp_all
          have hz : ¬ 0 < sl.length := fun h => hbad (Or.inr h)
          clear hbad
          go_wp2
          refine bodyPost_ret (v := .tuple #[.agg #[.slice A7 j c7, .bool (v == 1), .int .i64 o.o0, .int .i64 o.o1, .int .i64 o.o2, .int .i64 o.o3, .int .i64 o.o4, .int .i64 o.o5, .slice A5 pk.length c5], .int .i64 0]) (by simp [results, Try.results27, go_sem, d0, d1, d2, d3, d4, d5, d6, d7, d8]) rfl ?_
          rw [HR.out]
          have hTT : ∀ wF, Turns wr wF w.heap.size → AskR (TRow w.heap.size wF) ⟨ts, decide (v = 1), o, pk⟩ (.agg #[.slice A7 j c7, .bool (v == 1), .int .i64 o.o0, .int .i64 o.o1, .int .i64 o.o2, .int .i64 o.o3, .int .i64 o.o4, .int .i64 o.o5, .slice A5 pk.length c5]) ∧ Grew w wF := fun wF hT => by
            have e := HCl.out
            refine ⟨⟨A7, c7, A5, c5, by simp only [e]; rfl, ⟨css, HCs.out.map (fun x cs h => h.map (fun e A xs _ h => (h.turns hT HB3).low (by omega))), ((TRow.own HO.out).turns hT HB3).low (by omega)⟩, (HP.out.turns hT (by omega)).low (by omega)⟩, hT.below HGr.out (Nat.le_refl _)⟩
          exact ⟨_, rfl, hTT _ ((((((((((Turns.refl wr w.heap.size).set 0 _).set 1 _).set 2 _).set 3 _).set 4 _).set 5 _).set 6 _).set 7 _).set 8 _)⟩
  · have H3 : Hid (LeftIs (w.alloc (.cells zeroCs 39)) w2 g s1.1 s1.2) := Lib.hid (by rw [hs]; exact H2.out)
    clear hs
    go_upto_region 5 with fail
    clear n0 H2 B2
    go_wp2_with fail
    refine (CO.out _ _ H3.out).mono ?_
    rintro e w4 ⟨rfl, h4, t4⟩
    have H4 := Lib.hid h4
    clear h4 t4 H3
    simp only [optsV]
    go_wp2_with fail
    refine (CI.out _ _ H4.out).mono ?_
    rintro e w5 ⟨A5, c5, rfl, ho5, h5, t5⟩
    have H5 := Lib.hid h5
    have HO5 := Lib.hid ho5
    have hs4 := H4.out.lt
    have hs5 : g + 1 ≤ w4.heap.size := hs4
    clear h5 ho5 t5 H4
    go_wp2_with fail
    refine (CC.out _ _ (H5.out.alloc _)).mono ?_
    rintro e w6 ⟨rfl, h6, t6⟩
    have H6 := Lib.hid h6
    have T6 := Lib.hid t6
    clear h6 t6
    go_wp2_with fail
    have hw6 := T6.out.size
    simp at hw6
    have hg4 : g < w5.heap.size := H5.out.lt
    have HA : Hid (StatsAt (w.alloc (.cells zeroCs 39)) g w5.heap.size w6.heap.size (v == 1) o A5 pk c5 k s4 (.int .i64 0) w6) := Lib.hid
      ⟨0, none, 0, [], Nat.zero_le _, rfl, (Blok.new w5 _ (askCs (.slice none 0 0) (v == 1) o (.slice A5 pk.length c5)) _ rfl).turns T6.out (by omega), ListR.nil, own_none _ _ _ _,
        (((TRow.own HO5.out).low hs5).grew ((Grew.refl w5).alloc _)).turns T6.out (by omega), H6.out, Nat.le_refl _⟩
    have hb1 : g < w5.heap.size := hg4
    have hb2 : w5.heap.size < w6.heap.size := by omega
    clear T6 H6 HO5 H5 hw6 hs4 hs5 hg4
    generalize w5.heap.size = b at *
    generalize w6.heap.size = B at *
    go_loopw [28] (fun i wr => StatsAt (w.alloc (.cells zeroCs 39)) g b B (v == 1) o A5 pk c5 k s4 i wr) (fun i _ => k - (intOf i).toNat)
    case atStart => exact HA.out
    case round =>
      clear HA CO CI CC
      obtain ⟨j, A7, c7, css, hj, rfl, hb, hcs, ho, hP, hL, hBs⟩ := hrel
      have HBb := Lib.hid hb
      have HCs := Lib.hid hcs
      have HO := Lib.hid ho
      have HP := Lib.hid hP
      have HL := Lib.hid hL
      have HBs := Lib.hid hBs
      clear hb hcs ho hP hL hBs
      by_cases h : j < k
      · have N1 := Lib.hid (HT.out (statsS j s4).2 wr.drew g (L4.out.trans (less_stats j s4)) (HL.out.grow (Grew.refl _).drew))
        have HStep : Hid (statsS (j + 1) s4 = ((statsS j s4).1 ++ [(statS (statsS j s4).2).1], (statS (statsS j s4).2).2)) := Lib.hid rfl
        generalize statS (statsS j s4).2 = m1 at *
        obtain ⟨x, s5⟩ := m1
        go_upto_region 8 with fail
        have hS0 : Blok wr.drew b 39 (askCs (.slice A7 j c7) (v == 1) o (.slice A5 pk.length c5)) := HBb.out.grew (Grew.refl _).drew
        refine wp_region_last (fun W => Blok W b 39 (askCs (.slice A7 j c7) (v == 1) o (.slice A5 pk.length c5))) 7 rfl (by kernel_rfl) ?_
        refine last_take 0 (v := ?_) rfl (by kernel_rfl) (by kernel_rfl) (by kernel_rfl) (by kernel_rfl) (fun _ _ _ h => h) (by rfl) ?_ hS0 ?_
        rotate_left
        · (intro W hW; go_simp; with_reducible rfl)
        refine last_take 2 (v := ?_) rfl (by kernel_rfl) (by kernel_rfl) (by kernel_rfl) (by kernel_rfl) (fun _ _ _ h => h) (by rfl) ?_ hS0 ?_
        rotate_left
        · (intro W hW; go_simp; with_reducible rfl)
        refine last_norm (a' := ?_) ?_ ?_
        rotate_left
        · (go_simp; with_reducible rfl)
        refine last_take 1 (v := ?_) rfl (by kernel_rfl) (by kernel_rfl) (by kernel_rfl) (by kernel_rfl) (fun _ _ _ h => h) (by rfl) ?_ hS0 ?_
        rotate_left
        · (intro W hW; have q := hW.cell 0; simp [askCs] at q; go_simp; with_reducible rfl)
        refine last_norm (a' := ?_) ?_ ?_
        rotate_left
        · (go_simp; with_reducible rfl)
        refine last_call 3 (by kernel_rfl) (by kernel_rfl) rfl (by rfl) (fun K hK => ?_)
        go_simp
        go_wp2_with (go_at_call 106; (with_reducible refine N1.out.mono ?_); rintro e w8 ⟨A8, k8, rfl, hc8, h8, t8⟩; have H8 := Lib.hid h8; have T8 := Lib.hid t8; have HC8 := Lib.hid hc8; have hS8 := hS0.turns t8 (by omega); clear h8 t8 hc8)
        refine hK.out _ _ hS8 ?_
        clear hK K
        have hrow : ∀ i, (Value.slice A7 j c7).ownBlock = some i → B ≤ i := own_base HO.out
        have HOw := Lib.hid (own_turns (own_grew HO.out (Grew.refl wr).drew) T8.out (by omega))
        have hszd : B ≤ wr.drew.heap.size := HBs.out
        have hszB : B ≤ w8.heap.size := by have := T8.out.size; omega
        refine last_call 4 (by kernel_rfl) (by kernel_rfl) rfl (by rfl) (fun K hK => ?_)
        go_simp
        go_wp2_with fail
        refine hK.out _ _ (hS8.alloc _) ?_
        clear hK K
        refine last_call 5 (by kernel_rfl) (by kernel_rfl) rfl (by rfl) (fun K hK => ?_)
        refine wp_appB (.tmp 31) (.tmp 34) 35 97 2 rfl B (.agg #[.int .i64 0, .slice none 0 0]) 32 Try.underlying35 infoT rfl (by decide) (by decide) _ j _ rfl (own_alloc HOw.out _) _ 1 1 [.int .i64 x.rows, .slice A8 x.cols.length k8] rfl rfl (row_new _ _ _ #[.int .i64 x.rows, .slice A8 x.cols.length k8] rfl) (by simp; exact ⟨rfl, rfl⟩) (by omega) (by simp; omega) ?_
        intro A9 c9 w9 ho9 hg9
        have hS9 : Blok w9 b 39 (askCs (.slice A7 j c7) (v == 1) o (.slice A5 pk.length c5)) := (hS8.alloc _).grown hg9 (fun e => by have := hrow b e; omega)
        refine hK.out _ _ hS9 ?_
        clear hK K
        refine last_take 6 (v := ?_) rfl (by kernel_rfl) (by kernel_rfl) (by kernel_rfl) (by kernel_rfl) (fun _ _ _ h => h) (by rfl) ?_ hS9 ?_
        rotate_left
        · (intro W hW; go_simp; with_reducible rfl)
        refine last_norm (a' := ?_) ?_ ?_
        rotate_left
        · (go_simp; with_reducible rfl)
        have d0 := hS9.cell 0
        have z0 := hS9.thaw 0
        simp [askCs] at d0
        refine last_last (by kernel_rfl) (by kernel_rfl) rfl (by rfl) (fun K hK => ?_)
        go_simp
        go_wp2_with fail
        refine hK.out _ _ ?_
        clear hK K
        go_wp2
        have hTs : Turns w9 (w9.setCell ⟨b, 0, none⟩ (.slice A9 (j + 1) c9)) b := (Turns.refl w9 b).set 0 _
        have K1 : ∀ e A xs, e = 3 ∨ e = 101 → TRow B w8 e A xs → TRow B (w9.setCell ⟨b, 0, none⟩ (.slice A9 (j + 1) c9)) e A xs := fun e A xs he h =>
          ((h.grew ((Grew.refl w8).alloc _)).grown (own_alloc HOw.out _) (by rcases he with rfl | rfl <;> decide) hg9).turns hTs hb2
        refine ⟨⟨j + 1, A9, c9, css ++ [[.int .i64 x.rows, .slice A8 x.cols.length k8]], by omega, by go_num, ?_, ?_, ?_, ?_, ?_, ?_⟩, by simp only [intOf]; omega⟩
        · have h := hS9.set 0 (.slice A9 (j + 1) c9)
          simpa [askCs] using h
        · rw [HStep.out]
          exact (HCs.out.map (fun x cs h => h.map (fun e A xs he h => K1 e A xs he ((h.grew (Grew.refl wr).drew).turns T8.out (by omega))))).snoc ⟨A8, k8, rfl, HC8.out.map (fun e A xs he h => K1 e A xs he (h.low hszd))⟩ rfl
        · have e : (css ++ [[Value.int .i64 x.rows, Value.slice A8 x.cols.length k8]]).flatten = css.flatten ++ [Value.int .i64 x.rows, Value.slice A8 x.cols.length k8] := by simp
          rw [e]
          exact own_turns ho9 hTs hb2
        · exact ((((HP.out.grew (Grew.refl wr).drew).turns T8.out (by omega)).grew ((Grew.refl w8).alloc _)).grown (own_alloc HOw.out _) (by decide) hg9).apart hTs hS9 (by decide)
        · rw [HStep.out]
          exact ((H8.out.alloc _).grown hg9 (fun i hi => by have := hrow i hi; omega)).turns hTs hb1
        · have h1 := hTs.size
          have h2 := hg9.size
          simp at h2
          omega
      · obtain rfl : j = k := by omega
        have hcl := statsS_len j s4
        generalize statsS j s4 = st at *
        obtain ⟨ts, sl, sf⟩ := st
        simp only at hcl
        have HCl := Lib.hid hcl
        clear hcl HT
        obtain ⟨AL, hbl⟩ := HL.out.blok
        have c0 := hbl.cell 0
        have c1 := hbl.cell 1
        have R0 := Lib.hid (HB0.out.grew HL.out.grew)
        have HGr := Lib.hid (HG0.out.trans HL.out.grew)
        have hltb := HBb.out.lt
        have hltr := R0.out.lt
        have e0 := HBb.out.cell 0
        have e1 := HBb.out.cell 1
        have e2 := HBb.out.cell 2
        have e3 := HBb.out.cell 3
        have e4 := HBb.out.cell 4
        have e5 := HBb.out.cell 5
        have e6 := HBb.out.cell 6
        have e7 := HBb.out.cell 7
        have e8 := HBb.out.cell 8
        have d0 := R0.out.cell 0
        have d1 := R0.out.cell 1
        have d2 := R0.out.cell 2
        have d3 := R0.out.cell 3
        have d4 := R0.out.cell 4
        have d5 := R0.out.cell 5
        have d6 := R0.out.cell 6
        have d7 := R0.out.cell 7
        have d8 := R0.out.cell 8
        have z0 := R0.out.thaw 0
        have z1 := R0.out.thaw 1
        have z2 := R0.out.thaw 2
        have z3 := R0.out.thaw 3
        have z4 := R0.out.thaw 4
        have z5 := R0.out.thaw 5
        have z6 := R0.out.thaw 6
        have z7 := R0.out.thaw 7
        have z8 := R0.out.thaw 8
        simp [askCs, zeroCs] at c0 c1 e0 e1 e2 e3 e4 e5 e6 e7 e8 d0 d1 d2 d3 d4 d5 d6 d7 d8
        clear hbl
        have HB3 : w.heap.size < B := by omega
        by_cases hbad : sf = true ∨ 0 < sl.length
        · have HR : Hid (r = (askZ, 7)) := Lib.hid (by rw [EG.out, if_pos hbad])
          have hcases : sf = true ∨ (sf = false ∧ 0 < sl.length) := by cases sf <;> simp_all
          clear hbad
          rcases hcases with rfl | ⟨rfl, hpos⟩
          all_goals
            go_wp2
            refine bodyPost_ret (v := .tuple #[.agg #[.slice none 0 0, .bool false, .int .i64 0, .int .i64 0, .int .i64 0, .int .i64 0, .int .i64 0, .int .i64 0, .slice none 0 0], .int .i64 7]) (by simp [results, Try.results27, go_sem, d0, d1, d2, d3, d4, d5, d6, d7, d8]) rfl ?_
            rw [HR.out]
            refine ⟨_, rfl, ⟨none, 0, none, 0, rfl, ⟨[], ListR.nil, Or.inl rfl⟩, Or.inl rfl⟩, ?_⟩
            exact ((((((((((Turns.refl wr w.heap.size).set 0 _).set 1 _).set 2 _).set 3 _).set 4 _).set 5 _).set 6 _).set 7 _).set 8 _).below HGr.out (Nat.le_refl _)
        · have HR : Hid (r = (⟨ts, decide (v = 1), o, pk⟩, 0)) := Lib.hid (by rw [EG.out, if_neg hbad])
          obtain rfl : sf = false := by cases sf <;> simp_all
          have hz : ¬ 0 < sl.length := fun h => hbad (Or.inr h)
          clear hbad
          go_wp2
          refine bodyPost_ret (v := .tuple #[.agg #[.slice A7 j c7, .bool (v == 1), .int .i64 o.o0, .int .i64 o.o1, .int .i64 o.o2, .int .i64 o.o3, .int .i64 o.o4, .int .i64 o.o5, .slice A5 pk.length c5], .int .i64 0]) (by simp [results, Try.results27, go_sem, d0, d1, d2, d3, d4, d5, d6, d7, d8]) rfl ?_
          rw [HR.out]
          have hTT : ∀ wF, Turns wr wF w.heap.size → AskR (TRow w.heap.size wF) ⟨ts, decide (v = 1), o, pk⟩ (.agg #[.slice A7 j c7, .bool (v == 1), .int .i64 o.o0, .int .i64 o.o1, .int .i64 o.o2, .int .i64 o.o3, .int .i64 o.o4, .int .i64 o.o5, .slice A5 pk.length c5]) ∧ Grew w wF := fun wF hT => by
            have e := HCl.out
            refine ⟨⟨A7, c7, A5, c5, by simp only [e]; rfl, ⟨css, HCs.out.map (fun x cs h => h.map (fun e A xs _ h => (h.turns hT HB3).low (by omega))), ((TRow.own HO.out).turns hT HB3).low (by omega)⟩, (HP.out.turns hT (by omega)).low (by omega)⟩, hT.below HGr.out (Nat.le_refl _)⟩
          exact ⟨_, rfl, hTT _ ((((((((((Turns.refl wr w.heap.size).set 0 _).set 1 _).set 2 _).set 3 _).set 4 _).set 5 _).set 6 _).set 7 _).set 8 _)⟩
  · have H3 : Hid (LeftIs (w.alloc (.cells zeroCs 39)) w2 g s1.1 s1.2) := Lib.hid (by rw [hs]; exact H2.out)
    clear hs
    go_upto_region 5 with fail
    clear n0 n1 H2 B2
    go_wp2_with fail
    refine (CO.out _ _ H3.out).mono ?_
    rintro e w4 ⟨rfl, h4, t4⟩
    have H4 := Lib.hid h4
    clear h4 t4 H3
    simp only [optsV]
    go_wp2_with fail
    refine (CI.out _ _ H4.out).mono ?_
    rintro e w5 ⟨A5, c5, rfl, ho5, h5, t5⟩
    have H5 := Lib.hid h5
    have HO5 := Lib.hid ho5
    have hs4 := H4.out.lt
    have hs5 : g + 1 ≤ w4.heap.size := hs4
    clear h5 ho5 t5 H4
    go_wp2_with fail
    refine (CC.out _ _ (H5.out.alloc _)).mono ?_
    rintro e w6 ⟨rfl, h6, t6⟩
    have H6 := Lib.hid h6
    have T6 := Lib.hid t6
    clear h6 t6
    go_wp2_with fail
    have hw6 := T6.out.size
    simp at hw6
    have hg4 : g < w5.heap.size := H5.out.lt
    have HA : Hid (StatsAt (w.alloc (.cells zeroCs 39)) g w5.heap.size w6.heap.size (v == 1) o A5 pk c5 k s4 (.int .i64 0) w6) := Lib.hid
      ⟨0, none, 0, [], Nat.zero_le _, rfl, (Blok.new w5 _ (askCs (.slice none 0 0) (v == 1) o (.slice A5 pk.length c5)) _ rfl).turns T6.out (by omega), ListR.nil, own_none _ _ _ _,
        (((TRow.own HO5.out).low hs5).grew ((Grew.refl w5).alloc _)).turns T6.out (by omega), H6.out, Nat.le_refl _⟩
    have hb1 : g < w5.heap.size := hg4
    have hb2 : w5.heap.size < w6.heap.size := by omega
    clear T6 H6 HO5 H5 hw6 hs4 hs5 hg4
    generalize w5.heap.size = b at *
    generalize w6.heap.size = B at *
    go_loopw [28] (fun i wr => StatsAt (w.alloc (.cells zeroCs 39)) g b B (v == 1) o A5 pk c5 k s4 i wr) (fun i _ => k - (intOf i).toNat)
    case atStart => exact HA.out
    case round =>
      clear HA CO CI CC
      obtain ⟨j, A7, c7, css, hj, rfl, hb, hcs, ho, hP, hL, hBs⟩ := hrel
      have HBb := Lib.hid hb
      have HCs := Lib.hid hcs
      have HO := Lib.hid ho
      have HP := Lib.hid hP
      have HL := Lib.hid hL
      have HBs := Lib.hid hBs
      clear hb hcs ho hP hL hBs
      by_cases h : j < k
      · have N1 := Lib.hid (HT.out (statsS j s4).2 wr.drew g (L4.out.trans (less_stats j s4)) (HL.out.grow (Grew.refl _).drew))
        have HStep : Hid (statsS (j + 1) s4 = ((statsS j s4).1 ++ [(statS (statsS j s4).2).1], (statS (statsS j s4).2).2)) := Lib.hid rfl
        generalize statS (statsS j s4).2 = m1 at *
        obtain ⟨x, s5⟩ := m1
        go_upto_region 8 with fail
        have hS0 : Blok wr.drew b 39 (askCs (.slice A7 j c7) (v == 1) o (.slice A5 pk.length c5)) := HBb.out.grew (Grew.refl _).drew
        refine wp_region_last (fun W => Blok W b 39 (askCs (.slice A7 j c7) (v == 1) o (.slice A5 pk.length c5))) 7 rfl (by kernel_rfl) ?_
        refine last_take 0 (v := ?_) rfl (by kernel_rfl) (by kernel_rfl) (by kernel_rfl) (by kernel_rfl) (fun _ _ _ h => h) (by rfl) ?_ hS0 ?_
        rotate_left
        · (intro W hW; go_simp; with_reducible rfl)
        refine last_take 2 (v := ?_) rfl (by kernel_rfl) (by kernel_rfl) (by kernel_rfl) (by kernel_rfl) (fun _ _ _ h => h) (by rfl) ?_ hS0 ?_
        rotate_left
        · (intro W hW; go_simp; with_reducible rfl)
        refine last_norm (a' := ?_) ?_ ?_
        rotate_left
        · (go_simp; with_reducible rfl)
        refine last_take 1 (v := ?_) rfl (by kernel_rfl) (by kernel_rfl) (by kernel_rfl) (by kernel_rfl) (fun _ _ _ h => h) (by rfl) ?_ hS0 ?_
        rotate_left
        · (intro W hW; have q := hW.cell 0; simp [askCs] at q; go_simp; with_reducible rfl)
        refine last_norm (a' := ?_) ?_ ?_
        rotate_left
        · (go_simp; with_reducible rfl)
        refine last_call 3 (by kernel_rfl) (by kernel_rfl) rfl (by rfl) (fun K hK => ?_)
        go_simp
        go_wp2_with (go_at_call 106; (with_reducible refine N1.out.mono ?_); rintro e w8 ⟨A8, k8, rfl, hc8, h8, t8⟩; have H8 := Lib.hid h8; have T8 := Lib.hid t8; have HC8 := Lib.hid hc8; have hS8 := hS0.turns t8 (by omega); clear h8 t8 hc8)
        refine hK.out _ _ hS8 ?_
        clear hK K
        have hrow : ∀ i, (Value.slice A7 j c7).ownBlock = some i → B ≤ i := own_base HO.out
        have HOw := Lib.hid (own_turns (own_grew HO.out (Grew.refl wr).drew) T8.out (by omega))
        have hszd : B ≤ wr.drew.heap.size := HBs.out
        have hszB : B ≤ w8.heap.size := by have := T8.out.size; omega
        refine last_call 4 (by kernel_rfl) (by kernel_rfl) rfl (by rfl) (fun K hK => ?_)
        go_simp
        go_wp2_with fail
        refine hK.out _ _ (hS8.alloc _) ?_
        clear hK K
        refine last_call 5 (by kernel_rfl) (by kernel_rfl) rfl (by rfl) (fun K hK => ?_)
        refine wp_appB (.tmp 31) (.tmp 34) 35 97 2 rfl B (.agg #[.int .i64 0, .slice none 0 0]) 32 Try.underlying35 infoT rfl (by decide) (by decide) _ j _ rfl (own_alloc HOw.out _) _ 1 1 [.int .i64 x.rows, .slice A8 x.cols.length k8] rfl rfl (row_new _ _ _ #[.int .i64 x.rows, .slice A8 x.cols.length k8] rfl) (by simp; exact ⟨rfl, rfl⟩) (by omega) (by simp; omega) ?_
        intro A9 c9 w9 ho9 hg9
        have hS9 : Blok w9 b 39 (askCs (.slice A7 j c7) (v == 1) o (.slice A5 pk.length c5)) := (hS8.alloc _).grown hg9 (fun e => by have := hrow b e; omega)
        refine hK.out _ _ hS9 ?_
        clear hK K
        refine last_take 6 (v := ?_) rfl (by kernel_rfl) (by kernel_rfl) (by kernel_rfl) (by kernel_rfl) (fun _ _ _ h => h) (by rfl) ?_ hS9 ?_
        rotate_left
        · (intro W hW; go_simp; with_reducible rfl)
        refine last_norm (a' := ?_) ?_ ?_
        rotate_left
        · (go_simp; with_reducible rfl)
        have d0 := hS9.cell 0
        have z0 := hS9.thaw 0
        simp [askCs] at d0
        refine last_last (by kernel_rfl) (by kernel_rfl) rfl (by rfl) (fun K hK => ?_)
        go_simp
        go_wp2_with fail
        refine hK.out _ _ ?_
        clear hK K
        go_wp2
        have hTs : Turns w9 (w9.setCell ⟨b, 0, none⟩ (.slice A9 (j + 1) c9)) b := (Turns.refl w9 b).set 0 _
        have K1 : ∀ e A xs, e = 3 ∨ e = 101 → TRow B w8 e A xs → TRow B (w9.setCell ⟨b, 0, none⟩ (.slice A9 (j + 1) c9)) e A xs := fun e A xs he h =>
          ((h.grew ((Grew.refl w8).alloc _)).grown (own_alloc HOw.out _) (by rcases he with rfl | rfl <;> decide) hg9).turns hTs hb2
        refine ⟨⟨j + 1, A9, c9, css ++ [[.int .i64 x.rows, .slice A8 x.cols.length k8]], by omega, by go_num, ?_, ?_, ?_, ?_, ?_, ?_⟩, by simp only [intOf]; omega⟩
        · have h := hS9.set 0 (.slice A9 (j + 1) c9)
          simpa [askCs] using h
        · rw [HStep.out]
          exact (HCs.out.map (fun x cs h => h.map (fun e A xs he h => K1 e A xs he ((h.grew (Grew.refl wr).drew).turns T8.out (by omega))))).snoc ⟨A8, k8, rfl, HC8.out.map (fun e A xs he h => K1 e A xs he (h.low hszd))⟩ rfl
        · have e : (css ++ [[Value.int .i64 x.rows, Value.slice A8 x.cols.length k8]]).flatten = css.flatten ++ [Value.int .i64 x.rows, Value.slice A8 x.cols.length k8] := by simp
          rw [e]
          exact own_turns ho9 hTs hb2
        · exact ((((HP.out.grew (Grew.refl wr).drew).turns T8.out (by omega)).grew ((Grew.refl w8).alloc _)).grown (own_alloc HOw.out _) (by decide) hg9).apart hTs hS9 (by decide)
        · rw [HStep.out]
          exact ((H8.out.alloc _).grown hg9 (fun i hi => by have := hrow i hi; omega)).turns hTs hb1
        · have h1 := hTs.size
          have h2 := hg9.size
          simp at h2
          omega
      · obtain rfl : j = k := by omega
        have hcl := statsS_len j s4
        generalize statsS j s4 = st at *
        obtain ⟨ts, sl, sf⟩ := st
        simp only at hcl
        have HCl := Lib.hid hcl
        clear hcl HT
        obtain ⟨AL, hbl⟩ := HL.out.blok
        have c0 := hbl.cell 0
        have c1 := hbl.cell 1
        have R0 := Lib.hid (HB0.out.grew HL.out.grew)
        have HGr := Lib.hid (HG0.out.trans HL.out.grew)
        have hltb := HBb.out.lt
        have hltr := R0.out.lt
        have e0 := HBb.out.cell 0
        have e1 := HBb.out.cell 1
        have e2 := HBb.out.cell 2
        have e3 := HBb.out.cell 3
        have e4 := HBb.out.cell 4
        have e5 := HBb.out.cell 5
        have e6 := HBb.out.cell 6
        have e7 := HBb.out.cell 7
        have e8 := HBb.out.cell 8
        have d0 := R0.out.cell 0
        have d1 := R0.out.cell 1
        have d2 := R0.out.cell 2
        have d3 := R0.out.cell 3
        have d4 := R0.out.cell 4
        have d5 := R0.out.cell 5
        have d6 := R0.out.cell 6
        have d7 := R0.out.cell 7
        have d8 := R0.out.cell 8
        have z0 := R0.out.thaw 0
        have z1 := R0.out.thaw 1
        have z2 := R0.out.thaw 2
        have z3 := R0.out.thaw 3
        have z4 := R0.out.thaw 4
        have z5 := R0.out.thaw 5
        have z6 := R0.out.thaw 6
        have z7 := R0.out.thaw 7
        have z8 := R0.out.thaw 8
        simp [askCs, zeroCs] at c0 c1 e0 e1 e2 e3 e4 e5 e6 e7 e8 d0 d1 d2 d3 d4 d5 d6 d7 d8
        clear hbl
        have HB3 : w.heap.size < B := by omega
        by_cases hbad : sf = true ∨ 0 < sl.length
        · have HR : Hid (r = (askZ, 7)) := Lib.hid (by rw [EG.out, if_pos hbad])
          have hcases : sf = true ∨ (sf = false ∧ 0 < sl.length) := by cases sf <;> simp_all
          clear hbad
          rcases hcases with rfl | ⟨rfl, hpos⟩
          all_goals
            go_wp2
            refine bodyPost_ret (v := .tuple #[.agg #[.slice none 0 0, .bool false, .int .i64 0, .int .i64 0, .int .i64 0, .int .i64 0, .int .i64 0, .int .i64 0, .slice none 0 0], .int .i64 7]) (by simp [results, Try.results27, go_sem, d0, d1, d2, d3, d4, d5, d6, d7, d8]) rfl ?_
            rw [HR.out]
            refine ⟨_, rfl, ⟨none, 0, none, 0, rfl, ⟨[], ListR.nil, Or.inl rfl⟩, Or.inl rfl⟩, ?_⟩
            exact ((((((((((Turns.refl wr w.heap.size).set 0 _).set 1 _).set 2 _).set 3 _).set 4 _).set 5 _).set 6 _).set 7 _).set 8 _).below HGr.out (Nat.le_refl _)
        · have HR : Hid (r = (⟨ts, decide (v = 1), o, pk⟩, 0)) := Lib.hid (by rw [EG.out, if_neg hbad])
          obtain rfl : sf = false := by cases sf <;> simp_all
          have hz : ¬ 0 < sl.length := fun h => hbad (Or.inr h)
          clear hbad
          go_wp2
          refine bodyPost_ret (v := .tuple #[.agg #[.slice A7 j c7, .bool (v == 1), .int .i64 o.o0, .int .i64 o.o1, .int .i64 o.o2, .int .i64 o.o3, .int .i64 o.o4, .int .i64 o.o5, .slice A5 pk.length c5], .int .i64 0]) (by simp [results, Try.results27, go_sem, d0, d1, d2, d3, d4, d5, d6, d7, d8]) rfl ?_
          rw [HR.out]
          have hTT : ∀ wF, Turns wr wF w.heap.size → AskR (TRow w.heap.size wF) ⟨ts, decide (v = 1), o, pk⟩ (.agg #[.slice A7 j c7, .bool (v == 1), .int .i64 o.o0, .int .i64 o.o1, .int .i64 o.o2, .int .i64 o.o3, .int .i64 o.o4, .int .i64 o.o5, .slice A5 pk.length c5]) ∧ Grew w wF := fun wF hT => by
            have e := HCl.out
            refine ⟨⟨A7, c7, A5, c5, by simp only [e]; rfl, ⟨css, HCs.out.map (fun x cs h => h.map (fun e A xs _ h => (h.turns hT HB3).low (by omega))), ((TRow.own HO.out).turns hT HB3).low (by omega)⟩, (HP.out.turns hT (by omega)).low (by omega)⟩, hT.below HGr.out (Nat.le_refl _)⟩
          exact ⟨_, rfl, hTT _ ((((((((((Turns.refl wr w.heap.size).set 0 _).set 1 _).set 2 _).set 3 _).set 4 _).set 5 _).set 6 _).set 7 _).set 8 _)⟩
end Go.Proofs.Ytcokhgomibimcaa
