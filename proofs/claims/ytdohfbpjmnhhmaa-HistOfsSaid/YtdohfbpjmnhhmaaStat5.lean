/- Layer 27: is it held as it is: the same columns, by the library and the program. Condition: no more than a million columns. -/
import Derived.Test.YtdohfbpjmnhhmaaStat4
namespace Go.Proofs.Ytdohfbpjmnhhmaa
open Go.RowKit
attribute [local go_sem] more_cell more_frozen more_more more_setCell more_of_drew more_of_drewN lt_more le_more past_cell past_cell2 past_frozen past_frozen2 past_setCell past_setCell2 mid_cell mid_frozen mid_setCell
attribute [local go_sem ↓] Go.wp_at_zero Go.wp_at_succ

theorem equal_ints (a b : List Int) (A B : Option Addr) (c d : Nat) (w : World) (ha : Row w A (iV a)) (hb : Row w B (iV b)) (hl : a.length ≤ 1000000000) (hm : b.length ≤ 1000000000) :
    Gives Try.prog 38 #[.slice A a.length c, .slice B b.length d] w (.bool (decide (a = b))) := by
  by_cases hn : a.length = b.length
  · by_cases h0 : a.length = 0
    · have e1 : a = [] := List.eq_nil_of_length_eq_zero h0
      have e2 : b = [] := List.eq_nil_of_length_eq_zero (by omega)
      subst e1 e2
      refine (Try.slices_Equal_int_empty A B c 0 d w (by decide)).mono ?_
      rintro e w' ⟨rfl, rfl⟩
      exact ⟨by simp, ⟨⟨#[], w'.drawn⟩, (more_self w').symm⟩⟩
    · obtain ⟨b1, o1, rfl⟩ := irow_some ha (j := 0) (by omega)
      obtain ⟨b2, o2, rfl⟩ := irow_some hb (j := 0) (by omega)
      have hc : ∀ (l : List Int) (q p : Nat), Row w (some ⟨q, p, none⟩) (iV l) → ∀ j, j < l.length → w.cell? ⟨q, p + j, none⟩ = some (.int .i64 (l.getD j 0)) := fun l q p hr j hj => by
        rw [(irow_cell hr hj rfl).2, List.getD_eq_getElem?_getD, List.getElem?_eq_getElem hj]
        rfl
      refine (Try.slices_Equal_int b1 o1 a.length c b2 o2 b.length d a b w (Nat.le_refl _) (Nat.le_refl _) (by omega) (by omega) (hc a b1 o1 ha) (hc b b2 o2 hb)).mono ?_
      rintro e w' ⟨rfl, q, rfl⟩
      refine ⟨?_, (Grew.refl w).drewN q⟩
      rw [List.take_length, List.take_length]
      congr 2
      by_cases h : a = b
      · rw [decide_eq_true h, h]; simp
      · rw [decide_eq_false h]; simpa using h
  · refine (Try.slices_Equal_int_lens A B a.length c b.length d w hn).mono ?_
    rintro e w' ⟨rfl, rfl⟩
    refine ⟨?_, ⟨⟨#[], w'.drawn⟩, (more_self w').symm⟩⟩
    rw [decide_eq_false (fun e => hn (by rw [e]))]
theorem cst_cases2 (x y : Cst) : ((x.u == y.u) = false) ∨ (x.u = y.u ∧ (x.n == y.n) = false) ∨ (x.u = y.u ∧ x.n = y.n) := by
  by_cases h1 : x.u = y.u
  · by_cases h2 : x.n = y.n
    · exact Or.inr (Or.inr ⟨h1, h2⟩)
    · exact Or.inr (Or.inl ⟨h1, by simpa using h2⟩)
  · exact Or.inl (by simpa using h1)
set_option maxHeartbeats 1000000 in
theorem same27_any (x y : Cst) (A B : Option Addr) (k j : Nat) (hx : x.m.length ≤ 1000000000) (hy : y.m.length ≤ 1000000000) (w : World) (ra : Row w A (iV x.m)) (rb : Row w B (iV y.m)) :
    Gives Try.prog 26 #[.agg #[.int .i64 x.u, .int .i64 x.n, .slice A x.m.length k], .agg #[.int .i64 y.u, .int .i64 y.n, .slice B y.m.length j]] w (.bool (decide (x = y))) := by
  have HS : Hid (∀ W, Grew w W → Gives Try.prog 38 #[.slice A x.m.length k, .slice B y.m.length j] W (.bool (decide (x.m = y.m)))) := Lib.hid fun W hW => equal_ints x.m y.m A B k j W (ra.grew hW) (rb.grew hW) (by omega) (by omega)
  clear ra rb hx hy
  obtain ⟨u, n, m⟩ := x
  obtain ⟨u', n', m'⟩ := y
  have hc := cst_cases2 ⟨u, n, m⟩ ⟨u', n', m'⟩
  simp only at hc HS ⊢
  unfold Gives
  rcases hc with h | ⟨rfl, h⟩ | ⟨rfl, rfl⟩
  · have e : decide ((⟨u, n, m⟩ : Cst) = ⟨u', n', m'⟩) = false := decide_eq_false (by rintro ⟨⟩; simp at h)
    rw [e]
    clear HS e
    go_enter Try.func26, Try.ntmps26
    go_wp2
    go_ret
    exact ⟨rfl, by (show Grew _ _; repeat (first | exact Grew.refl _ | refine Grew.alloc ?_ _ | refine Grew.drew ?_ | refine Grew.more ?_ _))⟩
  · have e : decide ((⟨u, n, m⟩ : Cst) = ⟨u, n', m'⟩) = false := decide_eq_false (by rintro ⟨⟩; simp at h)
    rw [e]
    have h0 : (u == u) = true := by simp
    clear HS e
    go_enter Try.func26, Try.ntmps26
    go_wp2
    go_ret
    exact ⟨rfl, by (show Grew _ _; repeat (first | exact Grew.refl _ | refine Grew.alloc ?_ _ | refine Grew.drew ?_ | refine Grew.more ?_ _))⟩
  · have e : decide ((⟨u, n, m⟩ : Cst) = ⟨u, n, m'⟩) = decide (m = m') := by simp
    rw [e]
    generalize decide (m = m') = t at *
    have h0 : (n == n) = true := by simp
    have h1 : (u == u) = true := by simp
    clear e
    go_enter Try.func26, Try.ntmps26
    go_wp2_with (go_at_call 38; (with_reducible refine (HS.out _ (((Grew.refl w).alloc _).alloc _)).grows.mono ?_); rintro e w2 ⟨rfl, hg2⟩; have HG2 := Lib.hid ((((Grew.refl w).alloc _).alloc _).trans hg2); clear hg2)
    go_ret
    exact ⟨rfl, HG2.out⟩
set_option maxHeartbeats 2000000 in
set_option maxRecDepth 100000 in
theorem eqf_csts (l l' : List Cst) (A B : Option Addr) (k j m m' : Nat) (hm : l.length = m) (hm' : l'.length = m') (hs : m ≤ 1000000) (h1 : ∀ x ∈ l, x.m.length ≤ 1000000000) (h2 : ∀ x ∈ l', x.m.length ≤ 1000000000) (t : Bool) (ht : t = true ↔ l = l') (w : World)
    (ra : CstsR (PRow w) A l) (rb : CstsR (PRow w) B l') :
    Gives Try.prog 25 #[.slice A m k, .slice B m' j, .func (.func 26) #[] #[]] w (.bool t) := by
  have RA := Lib.hid ra
  have RB := Lib.hid rb
  have HT := Lib.hid ht
  have HM := Lib.hid hm
  have HM' := Lib.hid hm'
  have H1 := Lib.hid h1
  have H2 := Lib.hid h2
  clear ra rb ht hm hm' h1 h2
  unfold Gives
  by_cases hmm : m = m'
  · subst hmm
    have e0 : ((m : Int) != (m : Int)) = false := by simp
    go_enter Try.func25, Try.ntmps25
    go_upto_region 3 with fail
    clear e0
    go_wp2
    go_loopw [17] (fun i wr => EqCs w l l' i wr) (fun i _ => m - (intOf i).toNat)
    case atStart => exact ⟨0, Nat.zero_le _, rfl, by (show Grew _ _; repeat (first | exact Grew.refl _ | refine Grew.alloc ?_ _ | refine Grew.drew ?_ | refine Grew.more ?_ _)), rfl⟩
    case round =>
      obtain ⟨i, hi, rfl, hg, hk⟩ := hrel
      rw [HM.out] at hi
      have HG := Lib.hid hg
      have HK := Lib.hid hk
      clear hg hk
      by_cases h : i < m
      · have h1 : i < l.length := by rw [HM.out]; exact h
        have h2 : i < l'.length := by rw [HM'.out]; exact h
        obtain ⟨b, o, C, c, rfl, hb, c0, c1, c2, hc, rC⟩ := cstsR_at (RA.out.grew HG.out) h1
        obtain ⟨b', o', D, d, rfl, hb', d0, d1, d2, hd, rD⟩ := cstsR_at (RB.out.grew HG.out) h2
        have HC : Hid (∀ W, Grew wr W → Gives Try.prog 26 #[.agg #[.int .i64 l[i].u, .int .i64 l[i].n, .slice C l[i].m.length c], .agg #[.int .i64 l'[i].u, .int .i64 l'[i].n, .slice D l'[i].m.length d]] W (.bool (decide (l[i] = l'[i])))) := Lib.hid fun W hW =>
          same27_any l[i] l'[i] C D c d (H1.out _ (List.getElem_mem h1)) (H2.out _ (List.getElem_mem h2)) W (rC.grew hW) (rD.grew hW)
        have HN : Hid (l[i] = l'[i] → l.take (i + 1) = l'.take (i + 1)) := Lib.hid fun q => take_eq HK.out h1 h2 q
        have HF : Hid (¬ l[i] = l'[i] → t = false) := Lib.hid fun q => not_of HT.out (by
          intro e
          subst e
          exact q rfl)
        obtain ⟨q, hq⟩ : ∃ q, decide (l[i] = l'[i]) = q := ⟨_, rfl⟩
        rw [hq] at HC
        have HQ := Lib.hid hq
        clear hc hd rC rD HT HK hq H1 H2
        generalize l[i] = x at *
        generalize l'[i] = y at *
        obtain ⟨xu, xn, xm⟩ := x
        obtain ⟨yu, yn, ym⟩ := y
        simp only at *
        clear h1 h2
        go_upto_region 8 with (go_at_call 26; (with_reducible refine (HC.out _ (((Grew.refl wr).alloc _).alloc _)).grows.mono ?_); rintro e w2 ⟨rfl, hg2⟩; have HG2 := Lib.hid (HG.out.trans ((((Grew.refl wr).alloc _).alloc _).trans hg2)); clear hg2)
        · have e2 : q = false := by cases q <;> first | rfl | simp_all
          obtain rfl := HF.out (of_decide_eq_false (HQ.out.trans e2))
          clear HN HF HC HQ
          go_wp2
          go_ret
          exact ⟨rfl, HG2.out⟩
        · have e2 : q = true := by cases q <;> first | rfl | simp_all
          have HN1 := Lib.hid (HN.out (of_decide_eq_true (HQ.out.trans e2)))
          exact ⟨⟨i + 1, by rw [HM.out]; omega, by go_num, HG2.out, HN1.out⟩, by simp only [intOf]; omega⟩
      · obtain rfl : i = m := by omega
        have ht : t = true := HT.out.2 (by
          have := HK.out
          rwa [← HM.out, List.take_length, HM.out, ← HM'.out, List.take_length] at this)
        subst ht
        clear HK HT H1 H2
        go_wp2
        go_ret
        exact ⟨rfl, HG.out⟩
  · have e0 : ((m : Int) != (m' : Int)) = true := by rw [bne_iff_ne]; omega
    obtain rfl := not_of HT.out (fun e => hmm (by rw [← HM.out, ← HM'.out, e]))
    go_enter Try.func25, Try.ntmps25
    go_wp2
    go_ret
    exact ⟨rfl, by (show Grew _ _; repeat (first | exact Grew.refl _ | refine Grew.alloc ?_ _ | refine Grew.drew ?_ | refine Grew.more ?_ _))⟩
theorem heldP_small (s : Sst) (k : Nat) : ∀ x ∈ heldP s k, x.m.length ≤ 9 := by
  intro x hx
  obtain ⟨c, _, rfl⟩ := List.mem_map.1 hx
  show (sortI ((colAt s c).m.take 9)).length ≤ 9
  rw [sortI_len, List.length_take]
  omega
set_option maxHeartbeats 2000000 in
set_option maxRecDepth 100000 in
theorem right27_any (s : Sst) (A : Option Addr) (k : Nat) (cols : Int) (hm : ∀ x ∈ s.cols, x.m.length ≤ 1000000) (w : World) (ra : CstsR (PRow w) A s.cols) :
    Gives Try.prog 11 #[.agg #[.int .i64 s.rows, .slice A s.cols.length k], .int .i64 cols] w (.bool (decide (heldS s cols = s))) := by
  have HH : Hid (∀ W, Grew w W → Calls Try.prog 13 #[.agg #[.int .i64 s.rows, .slice A s.cols.length k], .int .i64 cols] W (HeldF W (heldS s cols))) := Lib.hid fun W hW => held27_any s A k cols hm W (ra.grew hW)
  obtain ⟨l, hl⟩ : ∃ l, heldP s (heldN cols) = l := ⟨_, rfl⟩
  have hls : l.length ≤ 1000000 := by rw [← hl, heldP_len]; have := heldN_le cols; omega
  have hlm : ∀ x ∈ l, x.m.length ≤ 9 := by rw [← hl]; exact heldP_small s _
  have HE : Hid (∀ B j W, Grew w W → CstsR (PRow W) B l → Gives Try.prog 25 #[.slice B l.length j, .slice A s.cols.length k, .func (.func 26) #[] #[]] W (.bool (decide (l = s.cols)))) := Lib.hid fun B j W hW hR =>
    eqf_csts l s.cols B A j k l.length s.cols.length rfl rfl hls (fun x hx => Nat.le_trans (hlm x hx) (by decide)) (fun x hx => Nat.le_trans (hm x hx) (by decide)) _ decide_eq_true_iff W hR (ra.grew hW)
  have hd : decide (heldS s cols = s) = (decide (cutI s.rows = s.rows) && decide (l = s.cols)) := by
    rw [← hl, ← Bool.decide_and]
    refine decide_eq_decide.2 ⟨fun e => ⟨congrArg Sst.rows e, congrArg Sst.cols e⟩, fun e => Sst.ext' e.1 e.2⟩
  have hv : heldS s cols = ⟨cutI s.rows, l⟩ := by rw [← hl]; rfl
  rw [hd]
  rw [hv] at HH
  clear hd hv hl ra hm hls hlm
  obtain ⟨r, hr⟩ : ∃ r, s.rows = r := ⟨_, rfl⟩
  obtain ⟨rc, hrc⟩ : ∃ rc, cutI r = rc := ⟨_, rfl⟩
  rw [hr] at HH ⊢
  rw [hrc] at HH ⊢
  clear hr hrc
  generalize s.cols = sc at *
  obtain ⟨t, ht⟩ : ∃ t, decide (l = sc) = t := ⟨_, rfl⟩
  rw [ht] at HE ⊢
  obtain ⟨tt, htt⟩ : ∃ tt, (decide (rc = r) && t) = tt := ⟨_, rfl⟩
  rw [htt]
  have HTt := Lib.hid htt
  clear ht htt
  unfold Gives
  obtain ⟨W0, hW0⟩ : ∃ W0, W0 = w.alloc (.cells #[.int .i64 r, .slice A sc.length k] 31) := ⟨_, rfl⟩
  have HG0 : Hid (Grew w W0) := Lib.hid (by rw [hW0]; exact (Grew.refl w).alloc _)
  have HB0 : Hid (Blok W0 w.heap.size 31 #[.int .i64 r, .slice A sc.length k]) := Lib.hid (by rw [hW0]; exact Blok.new _ _ _ _ rfl)
  go_enter Try.func11, Try.ntmps11
  go_upto_region 1 with fail
  rw [← hW0]
  clear hW0
  generalize w.heap.size = g0 at *
  obtain ⟨x1, x2, x3⟩ := boxS HB0.out
  go_wp2_with fail
  refine (HH.out _ HG0.out).mono ?_
  rintro e w2 ⟨B, j, rfl, hg2, hr2⟩
  have HG2 := Lib.hid (HG0.out.trans hg2)
  have HR2 := Lib.hid hr2
  have HB2 := Lib.hid (HB0.out.grew hg2)
  clear x1 x2 x3 HB0 hg2 hr2 HH
  obtain ⟨x1, x2, x3⟩ := boxS HB2.out
  by_cases hr0 : rc = r
  · subst hr0
    have e0 : (rc == rc) = true := by simp
    obtain rfl : tt = t := by rw [← HTt.out, decide_eq_true rfl, Bool.true_and]
    clear HTt
    go_wp2_with (go_at_call 25; (with_reducible refine (HE.out B j _ (HG2.out.alloc _) (HR2.out.grew ((Grew.refl w2).alloc _))).grows.mono ?_); rintro e w3 ⟨rfl, hg3⟩; have HG3 := Lib.hid ((HG2.out.alloc _).trans hg3); clear hg3)
    go_ret
    exact ⟨rfl, HG3.out⟩
  · have e0 : (rc == r) = false := by simpa using hr0
    obtain rfl : tt = false := by rw [← HTt.out, decide_eq_false hr0, Bool.false_and]
    clear HE HTt
    go_wp2
    go_ret
    exact ⟨rfl, HG2.out.alloc _⟩
end Go.Proofs.Ytdohfbpjmnhhmaa
