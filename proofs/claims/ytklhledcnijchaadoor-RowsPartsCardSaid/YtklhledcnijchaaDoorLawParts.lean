/- Layer 4: the law of parts of rows. Condition: rows that lie in memory that is there; the library's table of powers. -/
import Derived.Test.YtklhledcnijchaaDoorLawTwo
import Derived.Test.YtklhledcnijchaaDoorPick
import Derived.Test.YtklhledcnijchaaDoorRWo
import Derived.Deep.DeepCutAuto
namespace Go.Proofs.YtklhledcnijchaaDoor
open Go.RowKit
attribute [local go_sem] more_cell more_frozen more_more more_setCell more_of_drew more_of_drewN lt_more le_more past_cell past_cell2 past_frozen past_frozen2 past_setCell past_setCell2 mid_cell mid_frozen mid_setCell
attribute [local go_sem ↓] Go.wp_at_zero Go.wp_at_succ

theorem rwsR_prow {u w : World} {A : Option Addr} {l : List (List Vl)} (h : RwsR (MRow u w) A l) (g : Grew u w) : RwsR (PRow w) A l := h.imp fun _ _ _ hx => hx.plain g
theorem rwsOk_sub {l m : List (List Vl)} (h : RwsOk l) (hl : m.length ≤ l.length) (hm : ∀ x ∈ m, x ∈ l) : RwsOk m := ⟨Nat.le_trans hl h.1, fun v hv => h.2 v (hm v hv)⟩
theorem wf_i16 {n : Int} (h : (Lit.int .i16 n).wf = true) : -32768 ≤ n ∧ n ≤ 32767 := by
  simp [Lit.wf, IntKind.min, IntKind.max, IntKind.bits, IntKind.signed] at h
  exact h
def NlAt (u : World) (m : Nat) (i : Value) (wr : World) : Prop := ∃ j : Nat, j ≤ m ∧ i = .int .i64 j ∧ Grew u wr
set_option maxHeartbeats 8000000 in
set_option maxRecDepth 100000 in
theorem rowsParts_walk (l : List (List Vl)) (i : Int) (a b : List Vl) (ps : List Int) (n : Int) (L A B P : Option Addr) (kl k j c : Nat) (w : World) (hl : RwsOk l) (ha : RwOk a) (hb : RwOk b) (hk : a.length ≤ k) (hj : b.length ≤ j) (hn : -32768 ≤ n ∧ n ≤ 32767) (rl : RwsR (PRow w) L l) (ra : VlsR (PRow w) A a) (rb : VlsR (PRow w) B b) (rp : Row w P (iV ps)) (htab : Lib.TabIs Tryd.prog w "internal/strconv.uint64pow10" .u64 Lib.pow10Tab) :
    Gives Tryd.prog 4 #[.slice L l.length kl, .int .i64 i, .slice A a.length k, .slice B b.length j, .slice P ps.length c, .int .i16 n] w (.bool true) := by
  have HM : Hid (Calls Tryd.prog 8 #[.slice L l.length kl] w (MuchR w (goodRws l))) := Lib.hid (much4_any l hl L kl w rl)
  have HLive : Hid (∀ W, Grew w W → Gives Tryd.prog 9 #[] W (.bool true)) := Lib.hid fun W hW => live04_any W (tab_grew htab hW)
  have RL := Lib.hid rl
  have RA := Lib.hid ra
  have RB := Lib.hid rb
  have RP := Lib.hid rp
  have HOl := Lib.hid hl
  have HM2 : Hid (∀ W, Grew w W → Calls Tryd.prog 8 #[.slice (some ⟨W.heap.size, 0, none⟩) 2 2] (W.alloc (.cells #[.slice A a.length k, .slice B b.length j] 22)) (MuchR (W.alloc (.cells #[.slice A a.length k, .slice B b.length j] 22)) (goodRws [a, b]))) := Lib.hid fun W hW =>
    (much4_any [a, b] ⟨by simp, by intro r hr; simp only [List.mem_cons, List.not_mem_nil, or_false] at hr; rcases hr with rfl | rfl; exact ha; exact hb⟩ (some ⟨W.heap.size, 0, none⟩) 2 _ (rws_two (row_new W _ _ _ rfl) hk hj (ra.grew (hW.alloc _)) (rb.grew (hW.alloc _))))
  have HWi := Lib.hid (withoutI_len l i)
  have HWm : Hid (∀ x ∈ withoutI l i, x ∈ l) := Lib.hid fun x hx => withoutI_mem hx
  clear rl ra rb rp htab hl ha hb hk hj
  obtain ⟨hn0, hn1⟩ := hn
  obtain ⟨m, hm⟩ : ∃ m : Nat, max (0 : Int) n = (m : Int) := ⟨(max (0 : Int) n).toNat, by omega⟩
  have hm2 : min (65536 : Int) (m : Int) = (m : Int) := by omega
  unfold Gives
  go_enter Tryd.func4, Tryd.ntmps4
  go_wp2_with fail
  refine HM.out.mono ?_
  rintro e w1 ⟨t, rfl, hg1, h1⟩
  have HG1 := Lib.hid (show Grew w w1 from hg1)
  have HGood := Lib.hid h1
  clear hg1 h1 HM
  cases t
  rotate_left
  · go_wp2_with (go_at_call 9; (with_reducible refine (HLive.out _ HG1.out).grows.mono ?_); rintro e w5 ⟨rfl, hg5⟩; have HG5 := Lib.hid (show Grew w w5 from HG1.out.trans hg5); clear hg5)
    go_ret
    exact ⟨rfl, HG5.out⟩
  have hgl := HGood.out rfl
  clear HGood
  go_wp2_with fail
  refine (HM2.out w1 HG1.out).mono ?_
  rintro e w2 ⟨t, rfl, hg2, h1⟩
  have HG2 := Lib.hid (show Grew w w2 from HG1.out.trans (((Grew.refl w1).alloc _).trans hg2))
  have HGood := Lib.hid h1
  clear hg2 h1 HM2
  cases t
  rotate_left
  · go_wp2_with (go_at_call 9; (with_reducible refine (HLive.out _ HG2.out).grows.mono ?_); rintro e w5 ⟨rfl, hg5⟩; have HG5 := Lib.hid (show Grew w w5 from HG2.out.trans hg5); clear hg5)
    go_ret
    exact ⟨rfl, HG5.out⟩
  obtain ⟨ga, gb⟩ := good_two (HGood.out rfl)
  have a1 := ga.2.1 a (by simp)
  have b1 := gb.2.1 b (by simp)
  have l1 := hgl.1
  clear HGood HG1 hgl ga gb
  by_cases hps : 50 < ps.length
  · have e3 : decide ((50 : Int) < (ps.length : Int)) = true := decide_eq_true (by omega)
    go_wp2_with (go_at_call 9; (with_reducible refine (HLive.out _ HG2.out).grows.mono ?_); rintro e w5 ⟨rfl, hg5⟩; have HG5 := Lib.hid (show Grew w w5 from HG2.out.trans hg5); clear hg5)
    go_ret
    exact ⟨rfl, HG5.out⟩
  have e3 : decide ((50 : Int) < (ps.length : Int)) = false := decide_eq_false (by omega)
  have HRW : Hid (∀ W, Grew w W → Calls Tryd.prog 17 #[.slice L l.length kl, .int .i64 i] W (RowsF w W (withoutI l i))) := Lib.hid fun W hW => rwithout_any l l.length rfl (by omega) i L kl w W hW RL.out
  have HSl : Hid (∀ W, Grew w W → ∀ A' c', RwsR (PRow W) A' l → Gives Tryd.prog 18 #[.slice A' l.length c', .slice L l.length kl] W (.bool true)) := Lib.hid fun W hW A' c' hr => rsameRows_any l l A' L c' kl HOl.out true (by simp) W hr (RL.out.grew hW)
  have HSw : Hid (∀ W A' c' A2 c2, RwsR (PRow W) A' (withoutI l i) → RwsR (PRow W) A2 (withoutI l i) → Gives Tryd.prog 18 #[.slice A' (withoutI l i).length c', .slice A2 (withoutI l i).length c2] W (.bool true)) := Lib.hid fun W A' c' A2 c2 h1 h2 => rsameRows_any _ _ A' A2 c' c2 (rwsOk_sub HOl.out HWi.out HWm.out) true (by simp) W h1 h2
  have HWo : Hid (∀ W A' c', l.length ≤ c' → RwsR (PRow W) A' l → Calls Tryd.prog 19 #[.slice A' l.length c', .int .i64 i] W (RowsF W W (withoutI l i))) := Lib.hid fun W A' c' hc hr => without_any l l.length rfl (by omega) i A' c' hc W W (Grew.refl W) hr
  obtain ⟨css, hcs1, hcs2⟩ := RL.out
  have HCl : Hid (css.flatten.length = l.length) := Lib.hid (by rw [hcs1.flat, Nat.mul_one])
  have HC1 : Hid (∀ u ∈ css.flatten, u.oneCell' = true) := Lib.hid (hcs1.one _ fun x cs hx => rwR_one hx)
  have HCr : Hid (∀ W, Grew w W → Row W L css.flatten) := Lib.hid fun W hW => hcs2.grew hW
  have HCb : Hid (∀ W A', Grew w W → Row W A' css.flatten → RwsR (PRow W) A' l) := Lib.hid fun W A' hW hr => ⟨css, hcs1.map fun x cs hx => hx.imp fun _ _ _ h => h.grew hW, hr⟩
  clear hcs1 hcs2 HWi HWm HOl
  generalize css.flatten = M at *
  generalize withoutI l i = lw at *
  go_wp2_with fail
  refine (HRW.out w2 HG2.out).mono ?_
  rintro e w3 ⟨A3, c3, rfl, hc3, hg3, hr3⟩
  have HG3 := Lib.hid (HG2.out.trans hg3)
  have HR3 := Lib.hid (rwsR_prow hr3 HG3.out)
  clear hg3 hr3 HG2 HRW
  go_wp2_with (at_builtin; refine wpList_apps rfl (.tmp 35) (.tmp 36) 24 22 1 rfl w (.slice none 0 0) 24 Tryd.underlying24 infoRw rfl (by decide) (by decide) _ 0 [] rfl (own_empty w3 w.heap.size _ _ _ rfl HG3.out.size) L l.length kl M rfl (by rw [HCl.out, Nat.mul_one]) (HCr.out _ (HG3.out.alloc _)) HC1.out (by omega) (HG3.out.alloc _) ?_; intro A4 c4 w4 ho4 hr4 hg4 hb4 _; rw [Nat.zero_add] at ho4 ⊢; rw [List.nil_append] at ho4 hr4; have HC4 := Lib.hid (own_cap' ho4); have HR4 := Lib.hid (HCb.out w4 A4 hg4 hr4); have HG4 := Lib.hid hg4; have HG34 := Lib.hid (show Grew w3 w4 from ((Grew.refl w3).alloc _).grown hb4 (fun q hq => by cases hq; exact Nat.le_refl _)); clear ho4 hr4 hg4 hb4)
  refine (HWo.out w4 A4 c4 HC4.out HR4.out).mono ?_
  rintro e w5 ⟨A5, c5, rfl, hc5, hg5, hr5⟩
  have HG5 := Lib.hid (HG4.out.trans hg5)
  have HR5 := Lib.hid (rwsR_prow hr5 hg5)
  have HR35 := Lib.hid (HR3.out.grew (HG34.out.trans hg5))
  have HR45 := Lib.hid (HR4.out.grew hg5)
  clear hg5 hr5 HG4 HR3 HR4 HG34 HWo HC4
  go_wp2_with fail
  (with_reducible refine (HSw.out w5 A5 c5 A3 c3 HR5.out HR35.out).grows.mono ?_)
  rintro e w6 ⟨rfl, hg6⟩
  have HG6 := Lib.hid (HG5.out.trans hg6)
  have HR46 := Lib.hid (HR45.out.grew hg6)
  clear hg6 HG5 HR5 HR35 HR45 HSw
  go_wp2_with fail
  (with_reducible refine (HSl.out w6 HG6.out A4 c4 HR46.out).grows.mono ?_)
  rintro e w7 ⟨rfl, hg7⟩
  have HG7 := Lib.hid (HG6.out.trans hg7)
  clear hg7 HG6 HR46 HSl
  have HPk : Hid (∀ W, Grew w W → Calls Tryd.prog 20 #[.slice A a.length k, .slice P ps.length c] W (ValsF W (pickL a ps))) := Lib.hid fun W hW => pick_any a ps (by omega) A P k c W (RA.out.grew hW) (RP.out.grew hW)
  have HRPk : Hid (∀ W, Grew w W → Calls Tryd.prog 21 #[.slice A a.length k, .slice P ps.length c] W (ValsF W (pickL a ps))) := Lib.hid fun W hW => rpick_any a ps (by omega) A P k c W (RA.out.grew hW) (RP.out.grew hW)
  have hpl : (pickL a ps).length ≤ 140737488355328 := by rw [pickL_len]; omega
  generalize pickL a ps = pk at *
  go_wp2_with fail
  refine (HPk.out w7 HG7.out).mono ?_
  rintro e w8 ⟨A8, c8, rfl, hg8, ho8⟩
  have HG8 := Lib.hid (HG7.out.trans hg8)
  have HV8 := Lib.hid (own_vals ho8)
  clear hg8 ho8 HG7 HPk
  go_wp2_with fail
  refine (HRPk.out w8 HG8.out).mono ?_
  rintro e w9 ⟨A9, c9, rfl, hg9, ho9⟩
  have HG9 := Lib.hid (HG8.out.trans hg9)
  have HV9 := Lib.hid (own_vals ho9)
  have HV89 := Lib.hid (HV8.out.grew hg9)
  clear hg9 ho9 HG8 HV8 HRPk
  go_wp2_with fail
  (with_reducible refine (rsameRow_any pk pk A8 A9 c8 c9 hpl true (by simp) w9 HV89.out HV9.out).grows.mono ?_)
  rintro e w10 ⟨rfl, hg10⟩
  have HG10 := Lib.hid (HG9.out.trans hg10)
  clear hg10 HG9 HV89 HV9 hpl
  have hcv : IntKind.i64.wrap n = n := IntWalk.i64_in n (by omega)
  go_wp2_with fail
  refine (nulls_any n m (m : Int) hm hm2 w10).mono ?_
  rintro e w11 ⟨A11, c11, rfl, hg11, ho11⟩
  have HG11 := Lib.hid (HG10.out.trans hg11)
  rw [List.length_replicate] at ho11 ⊢
  have HV11 := Lib.hid (own_vals ho11)
  clear hg11 ho11 HG10
  go_upto_if 66 with fail
  go_cut [16] (fun p wx => p = .int .i64 m ∧ wx = w11)
  case first =>
    by_cases hneg : n < 0
    · have hm0 : (m : Int) = 0 := by omega
      have f0 : decide (n < 0) = true := decide_eq_true hneg
      go_wp2
      go_meet
      exact ⟨by rw [hm0], rfl⟩
    · have hm0 : (m : Int) = n := by omega
      have f0 : decide (n < 0) = false := decide_eq_false hneg
      go_wp2
      go_meet
      exact ⟨by rw [hm0], rfl⟩
  case rest =>
    obtain ⟨rfl, hwc⟩ := hcut
    have hwc := hwc.symm
    subst hwc
    go_wp2
    go_loopw [17] (fun i wr => NlAt w11 m i wr) (fun i _ => m - (intOf i).toNat)
    case atStart => exact ⟨0, Nat.zero_le _, rfl, Grew.refl _⟩
    case round =>
      obtain ⟨q, hq, rfl, hg⟩ := hrel
      have HG := Lib.hid hg
      clear hg
      by_cases h : q < m
      · have hqi : (q : Int) < (m : Int) := by omega
        obtain ⟨vb, vo, rfl, hvb, c0, c1, c2⟩ := vlsR_at (HV11.out.grew HG.out) (i := q) (by rw [List.length_replicate]; exact h)
        simp only [List.getElem_replicate, nulV] at c0 c1 c2
        go_wp2
        exact ⟨⟨q + 1, by omega, by go_num, HG.out⟩, by simp only [intOf]; omega⟩
      · obtain rfl : q = m := by omega
        have HG12 := Lib.hid (HG11.out.trans HG.out)
        have HJ : Hid (Calls Tryd.prog 23 #[.slice (some ⟨wr.heap.size, 0, none⟩) 3 3] (wr.alloc (.cells #[.slice A a.length k, .slice B b.length j, .slice none 0 0] 22)) (ValsF (wr.alloc (.cells #[.slice A a.length k, .slice B b.length j, .slice none 0 0] 22)) (a ++ b))) := Lib.hid (by
          have e : allV [⟨A, k, a⟩, ⟨B, j, b⟩, ⟨none, 0, []⟩] = a ++ b := by simp [allV]
          have hx := join_vals [⟨A, k, a⟩, ⟨B, j, b⟩, ⟨none, 0, []⟩] 3 rfl (by decide) (by rw [e, List.length_append]; omega) (some ⟨wr.heap.size, 0, none⟩) 3 _ (row_new wr 22 wr.heap.size #[.slice A a.length k, .slice B b.length j, .slice none 0 0] rfl) (by
            intro p hp
            simp only [List.mem_cons, List.not_mem_nil, or_false] at hp
            rcases hp with rfl | rfl | rfl
            · exact vlsR_row (RA.out.grew (HG12.out.alloc _))
            · exact vlsR_row (RB.out.grew (HG12.out.alloc _))
            · exact Or.inl rfl)
          rw [e] at hx
          exact hx)
        have HSm : Hid (∀ A1 c1 A2 c2 W, VlsR (PRow W) A1 (a ++ b) → VlsR (PRow W) A2 (a ++ b) → Gives Tryd.prog 12 #[.slice A1 (a.length + b.length) c1, .slice A2 (a.length + b.length) c2] W (.bool true)) := Lib.hid fun A1 c1 A2 c2 W h1 h2 => by
          have hx := rsameRow_any (a ++ b) (a ++ b) A1 A2 c1 c2 (by rw [List.length_append]; omega) true (by simp) W h1 h2
          rwa [List.length_append] at hx
        have HRa : Hid (∀ W, Grew w W → Row W A (flatV a)) := Lib.hid fun W hW => vlsR_row (RA.out.grew hW)
        have HRb : Hid (∀ W, Grew w W → Row W B (flatV b)) := Lib.hid fun W hW => vlsR_row (RB.out.grew hW)
        have HLa := Lib.hid (flatV_len a)
        have HLb := Lib.hid (flatV_len b)
        have HOa := Lib.hid (flatV_one a)
        have HOb := Lib.hid (flatV_one b)
        clear HG HG11 HV11
        go_wp2_with fail
        refine HJ.out.mono ?_
        rintro e w13 ⟨A13, c13, rfl, hg13, ho13⟩
        have HG13 := Lib.hid (HG12.out.trans (((Grew.refl wr).alloc _).trans hg13))
        rw [List.length_append] at ho13 ⊢
        have HV13 := Lib.hid (own_vals ho13)
        clear hg13 ho13 HJ
        go_wp2_with (first | (at_builtin; refine wpList_appW (by rfl) (.tmp 88) (.tmp 89) 22 31 3 rfl w13 (.agg #[.int .i64 0, .int .i64 0, .string ⟨#[]⟩]) 32 Tryd.underlying22 infoV rfl (by decide) (by decide) _ 0 [] rfl (own_empty w13 w13.heap.size _ _ _ rfl (Nat.le_refl _)) A a.length k (flatV a) rfl HLa.out (HRa.out _ (HG13.out.alloc _)) HOa.out (by omega) ((Grew.refl w13).alloc _) ?_; intro A14 c14 w14 ho hg _; rw [Nat.zero_add] at ho ⊢; rw [List.nil_append] at ho; have HO14 := Lib.hid ho; have HG14 := Lib.hid hg; clear ho hg) | (at_builtin; refine wpList_appW (by rfl) (.tmp 90) (.tmp 91) 22 31 3 rfl w13 (.agg #[.int .i64 0, .int .i64 0, .string ⟨#[]⟩]) 32 Tryd.underlying22 infoV rfl (by decide) (by decide) _ a.length (flatV a) rfl HO14.out B b.length j (flatV b) rfl HLb.out (HRb.out _ (HG13.out.trans HG14.out)) HOb.out (by omega) HG14.out ?_; intro A15 c15 w15 ho hg _; rw [← flatV_app] at ho; have HV15 := Lib.hid (own_vals ho); have HV135 := Lib.hid (HV13.out.grew hg); have HG15 := Lib.hid (HG13.out.trans hg); clear ho hg))
        (with_reducible refine (HSm.out A13 c13 A15 c15 w15 HV135.out HV15.out).grows.mono ?_)
        rintro e w16 ⟨rfl, hg16⟩
        have HG16 := Lib.hid (HG15.out.trans hg16)
        clear hg16 HG15 HG14 HO14 HG13 HV13 HV15 HV135 HSm
        go_wp2_with (go_at_call 9; (with_reducible refine (HLive.out _ HG16.out).grows.mono ?_); rintro e w17 ⟨rfl, hg17⟩; have HG17 := Lib.hid (show Grew w w17 from HG16.out.trans hg17); clear hg17)
        go_ret
        exact ⟨rfl, HG17.out⟩
end Go.Proofs.YtklhledcnijchaaDoor
