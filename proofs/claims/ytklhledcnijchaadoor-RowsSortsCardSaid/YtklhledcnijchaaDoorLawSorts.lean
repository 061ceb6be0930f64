/- Layer 4: the law of rows in order. Condition: rows that lie in memory that is there; the library's table of powers. -/
import Derived.Test.YtklhledcnijchaaDoorLawTwo
import Derived.Test.YtklhledcnijchaaDoorBag
namespace Go.Proofs.YtklhledcnijchaaDoor
open Go.RowKit
attribute [local go_sem] more_cell more_frozen more_more more_setCell more_of_drew more_of_drewN lt_more le_more past_cell past_cell2 past_frozen past_frozen2 past_setCell past_setCell2 mid_cell mid_frozen mid_setCell
attribute [local go_sem ↓] Go.wp_at_zero Go.wp_at_succ

theorem rws_single {w : World} {B A : Option Addr} {l : List Vl} {k : Nat} (h : Row w B [.slice A l.length k]) (hk : l.length ≤ k) (h2 : VlsR (PRow w) A l) : RwsR (PRow w) B [l] :=
  ⟨[[.slice A l.length k]], ListR.front ⟨A, k, rfl, hk, h2⟩ rfl, by simpa [PRow] using h⟩
theorem szRs_mem {l : List (List Vl)} {r : List Vl} (hr : r ∈ l) : szR r ≤ szRs l := by
  induction l with
  | nil => cases hr
  | cons x l ih =>
    have e : szRs (x :: l) = szR x + szRs l := by simp [szRs]
    rcases List.mem_cons.1 hr with rfl | hr
    · omega
    · have := ih hr
      omega
def BkAt (w : World) (a : List (List Vl)) (v i : Value) (wr : World) : Prop :=
  ∃ (q : Nat) (S : Option Addr) (c : Nat) (css : List (List Value)), q ≤ a.length ∧ i = .int .i64 q ∧ v = .slice S q c ∧ q ≤ c ∧ Grew w wr ∧ ListR (RwR (PRow w)) 1 (a.take q).reverse css ∧ Row wr S css.flatten
set_option maxHeartbeats 8000000 in
set_option maxRecDepth 100000 in
theorem rowsSorts_walk (a b : List (List Vl)) (r : List Vl) (A B C : Option Addr) (k j c : Nat) (w : World) (ha : RwsOk a) (hb : RwsOk b) (hr : RwOk r) (hc : r.length ≤ c) (ra : RwsR (PRow w) A a) (rb : RwsR (PRow w) B b) (rr : VlsR (PRow w) C r) (htab : Lib.TabIs Tryd.prog w "internal/strconv.uint64pow10" .u64 Lib.pow10Tab) :
    Gives Tryd.prog 5 #[.slice A a.length k, .slice B b.length j, .slice C r.length c] w (.bool true) := by
  have HM : Hid (Calls Tryd.prog 8 #[.slice A a.length k] w (MuchR w (goodRws a))) := Lib.hid (much4_any a ha A k w ra)
  have HM1 : Hid (∀ W, Grew w W → Calls Tryd.prog 8 #[.slice B b.length j] W (MuchR W (goodRws b))) := Lib.hid fun W hW => much4_any b hb B j W (rb.grew hW)
  have HM2 : Hid (∀ W, Grew w W → Calls Tryd.prog 8 #[.slice (some ⟨W.heap.size, 0, none⟩) 1 1] (W.alloc (.cells #[.slice C r.length c] 22)) (MuchR (W.alloc (.cells #[.slice C r.length c] 22)) (goodRws [r]))) := Lib.hid fun W hW =>
    much4_any [r] ⟨by simp, by intro x hx; simp only [List.mem_cons, List.not_mem_nil, or_false] at hx; rw [hx]; exact hr⟩ (some ⟨W.heap.size, 0, none⟩) 1 _ (rws_single (row_new W _ _ _ rfl) hc (rr.grew (hW.alloc _)))
  have HLive : Hid (∀ W, Grew w W → Gives Tryd.prog 9 #[] W (.bool true)) := Lib.hid fun W hW => live04_any W (tab_grew htab hW)
  have RA := Lib.hid ra
  have RB := Lib.hid rb
  have RC := Lib.hid rr
  have HOa := Lib.hid ha
  have HOb := Lib.hid hb
  clear ra rb rr htab ha hb hr hc
  unfold Gives
  go_enter Tryd.func5, Tryd.ntmps5
  go_wp2_with fail
  refine HM.out.mono ?_
  rintro e w1 ⟨t, rfl, hg1, h1⟩
  have HG1 := Lib.hid (show Grew w w1 from hg1)
  have HGood := Lib.hid h1
  clear hg1 h1 HM
  cases t
  rotate_left
  · go_wp2_with (go_at_call 9; (with_reducible refine (HLive.out _ HG1.out).grows.mono ?_); rintro e w5 ⟨rfl, hg5⟩; have HG5 := Lib.hid (show Grew w w5 from HG1.out.trans hg5); clear hg5)
    go_ret
    exact ⟨rfl, HG5.out⟩
  have hga := HGood.out rfl
  clear HGood
  go_wp2_with fail
  refine (HM1.out w1 HG1.out).mono ?_
  rintro e w2 ⟨t, rfl, hg2, h1⟩
  have HG2 := Lib.hid (show Grew w w2 from HG1.out.trans hg2)
  have HGood := Lib.hid h1
  clear hg2 h1 HM1 HG1
  cases t
  rotate_left
  · go_wp2_with (go_at_call 9; (with_reducible refine (HLive.out _ HG2.out).grows.mono ?_); rintro e w5 ⟨rfl, hg5⟩; have HG5 := Lib.hid (show Grew w w5 from HG2.out.trans hg5); clear hg5)
    go_ret
    exact ⟨rfl, HG5.out⟩
  have hgb := HGood.out rfl
  clear HGood
  go_wp2_with fail
  refine (HM2.out w2 HG2.out).mono ?_
  rintro e w3 ⟨t, rfl, hg3, h1⟩
  have HG3 := Lib.hid (show Grew w w3 from HG2.out.trans (((Grew.refl w2).alloc _).trans hg3))
  clear hg3 h1 HM2 HG2
  cases t
  rotate_left
  · go_wp2_with (go_at_call 9; (with_reducible refine (HLive.out _ HG3.out).grows.mono ?_); rintro e w5 ⟨rfl, hg5⟩; have HG5 := Lib.hid (show Grew w w5 from HG3.out.trans hg5); clear hg5)
    go_ret
    exact ⟨rfl, HG5.out⟩
  have la := hga.1
  have lb := hgb.1
  have HZ : Hid (∀ x ∈ a, ∀ v ∈ x, v.s.size ≤ maxLen) := Lib.hid fun x hx v hv => by
    have h1 := szRs_mem hx
    have h2 := szR_mem hv
    have h3 := hga.2.2
    unfold maxLen
    omega
  clear hga hgb
  have HSo : Hid (∀ W, Grew w W → Calls Tryd.prog 24 #[.slice A a.length k] W (SortF W a)) := Lib.hid fun W hW => rowsSort_any a HOa.out (by omega) A k W (RA.out.grew hW)
  have HRSo : Hid (∀ W, Grew w W → Calls Tryd.prog 25 #[.slice A a.length k] W (SortF W a)) := Lib.hid fun W hW => rsort_any a HOa.out (by omega) HZ.out A k W (RA.out.grew hW)
  have hrl : a.reverse.length = a.length := List.length_reverse
  have HOr : Hid (RwsOk a.reverse) := Lib.hid ⟨by rw [hrl]; exact HOa.out.1, fun v hv => HOa.out.2 v (List.mem_reverse.1 hv)⟩
  have hsr : sortR a.reverse = sortR a := sortR_eq.2 (List.reverse_perm a)
  have HSor : Hid (∀ W S c, RwsR (PRow W) S a.reverse → Calls Tryd.prog 24 #[.slice S a.length c] W fun e w' => ∃ A k, e = .returned (.slice A a.length k) ∧ Grew W w' ∧ RwsR (PRow w') A (sortR a)) := Lib.hid fun W S c h => by
    have hx := rowsSort_any a.reverse HOr.out (by rw [hrl]; omega) S c W h
    unfold SortF at hx
    rwa [hsr, hrl] at hx
  have HSl : Hid (∀ W A1 k1 A2 k2, RwsR (PRow W) A1 (sortR a) → RwsR (PRow W) A2 (sortR a) → Gives Tryd.prog 18 #[.slice A1 a.length k1, .slice A2 a.length k2] W (.bool true)) := Lib.hid fun W A1 k1 A2 k2 h1 h2 => by
    have hx := rsameRows_any (sortR a) (sortR a) A1 A2 k1 k2 (sortR_ok' HOa.out) true (by simp) W h1 h2
    rwa [sortR_len] at hx
  have HBs : Hid (∀ W A1 k1, Grew w W → RwsR (PRow W) A1 (sortR a) → Gives Tryd.prog 26 #[.slice A1 a.length k1, .slice A a.length k] W (.bool true)) := Lib.hid fun W A1 k1 hW h1 => by
    have hx := rsameBag_any (sortR a) a (sortR_ok' HOa.out) HOa.out true (by simp [sortR_perm a]) A1 A k1 k W h1 (RA.out.grew hW)
    rwa [sortR_len] at hx
  obtain ⟨tb, htb⟩ := some_of (a.Perm b)
  have HBg : Hid (∀ W, Grew w W → Gives Tryd.prog 27 #[.slice A a.length k, .slice B b.length j] W (.bool tb)) := Lib.hid fun W hW => rowsSameBag_any a b HOa.out HOb.out (by omega) (by omega) tb htb A B k j W (RA.out.grew hW) (RB.out.grew hW)
  have HRBg : Hid (∀ W, Grew w W → Gives Tryd.prog 26 #[.slice A a.length k, .slice B b.length j] W (.bool tb)) := Lib.hid fun W hW => rsameBag_any a b HOa.out HOb.out tb htb A B k j W (RA.out.grew hW) (RB.out.grew hW)
  have HCn : Hid (∀ W, Grew w W → Gives Tryd.prog 28 #[.slice A a.length k, .slice C r.length c] W (.int .i64 (cntR a r : Nat))) := Lib.hid fun W hW => count_any a r HOa.out A C k c W (RA.out.grew hW) (RC.out.grew hW)
  have HRCn : Hid (∀ W, Grew w W → Gives Tryd.prog 29 #[.slice A a.length k, .slice C r.length c] W (.int .i64 (cntR a r : Nat))) := Lib.hid fun W hW => rcount_any a r HOa.out A C k c W (RA.out.grew hW) (RC.out.grew hW)
  have q1 : (tb == tb) = true := by simp
  clear htb hsr HOr HZ HOa HOb RB RC
  generalize cntR a r = cn at *
  have q2 : ((cn : Int) == (cn : Int)) = true := by simp
  go_wp2_with fail
  refine (HSo.out w3 HG3.out).mono ?_
  rintro e w4 ⟨A4, k4, rfl, hg4, hr4⟩
  have HG4 := Lib.hid (HG3.out.trans hg4)
  have HR4 := Lib.hid hr4
  clear hg4 hr4 HG3 HSo
  go_wp2
  go_loopw [8, 9] (fun v i wr => BkAt w a v i wr ∧ Grew w4 wr) (fun _ i _ => a.length - (intOf i).toNat)
  case atStart => exact ⟨⟨0, none, 0, [], Nat.zero_le _, rfl, rfl, Nat.le_refl _, HG4.out, by rw [List.take_zero]; exact ListR.nil, Or.inl rfl⟩, Grew.refl _⟩
  case round =>
    obtain ⟨⟨q, S, cS, css, hq, rfl, rfl, hqc, hg, hls, hrow⟩, hg4⟩ := hrel
    have HG := Lib.hid hg
    have HL := Lib.hid hls
    have HRw := Lib.hid hrow
    have HG4r := Lib.hid hg4
    clear hg hls hrow hg4
    by_cases h : q < a.length
    · have hqi : (q : Int) < (a.length : Int) := by omega
      have e0 : decide ((q : Int) < (a.length : Int)) = true := decide_eq_true hqi
      obtain ⟨pb, po, PA, ka, rfl, hpb, c0, hka, hva⟩ := rwsR_at RA.out h
      have c0' := (HG.out.cell (a := ⟨pb, po + q, none⟩) hpb).trans c0
      have hpb' : pb < wr.heap.size := Nat.lt_of_lt_of_le hpb HG.out.size
      have hln : css.flatten.length = q := by rw [HL.out.flat, List.length_reverse, List.length_take]; omega
      have h1 : ∀ u ∈ css.flatten, u.oneCell' = true := HL.out.one _ fun x cs hx => rwR_one hx
      have HF : Hid (∀ A3 c3 w3, w3.ownsRow wr.heap.size 22 1 (.slice A3 (1 + q) c3) (1 + q) ([.slice PA a[q].length ka] ++ css.flatten) → Grew wr w3 → BkAt w a (.slice A3 (1 + q) c3) (.int .i64 ((q : Int) + 1)) w3 ∧ Grew w4 w3) := Lib.hid fun A3 c3 w3 h1 h2 => by
        refine ⟨⟨q + 1, A3, c3, [[.slice PA a[q].length ka]] ++ css, by omega, by go_num, by rw [Nat.add_comm], by have := own_cap' h1; omega, HG.out.trans h2, ?_, ?_⟩, HG4r.out.trans h2⟩
        · rw [List.take_succ_eq_append_getElem h, List.reverse_append]
          exact (ListR.front ⟨PA, ka, rfl, hka, hva⟩ rfl).append HL.out
        · rw [List.flatten_append]
          exact own_rowS h1
      have HLn := Lib.hid hln
      have H1 := Lib.hid h1
      clear HG HL c0 hpb HG4r hln h1
      generalize css.flatten = M at *
      generalize a[q] = x at *
      go_wp2_with (at_builtin; refine wpList_apps rfl (.tmp 34) (.tmp 35) 24 22 1 rfl wr (.slice none 0 0) 24 Tryd.underlying24 infoRw rfl (by decide) (by decide) _ 1 [.slice PA x.length ka] rfl (own_one wr wr.heap.size _ _ _ rfl (Nat.le_refl _)) S q cS M rfl (by rw [HLn.out, Nat.mul_one]) (HRw.out.grew ((Grew.refl wr).alloc _)) H1.out (by omega) ((Grew.refl wr).alloc _) ?_; intro A3 c3 w3 ho _ hg _ _; have HX := Lib.hid (HF.out A3 c3 w3 ho hg); clear ho hg)
      exact ⟨HX.out, by simp only [intOf]; omega⟩
    · obtain rfl : q = a.length := by omega
      rw [List.take_length] at HL
      have HBk : Hid (RwsR (PRow wr) S a.reverse) := Lib.hid ⟨css, HL.out.map fun x cs hx => hx.imp fun _ _ _ h => h.grew HG.out, HRw.out⟩
      have HR4r := Lib.hid (HR4.out.grew HG4r.out)
      clear HL HRw HR4 HG4 HG4r RA
      go_wp2_with fail
      refine (HRSo.out wr HG.out).mono ?_
      rintro e w5 ⟨A5, k5, rfl, hgx, hr5⟩
      have HG5 := Lib.hid (HG.out.trans hgx)
      have HR5 := Lib.hid hr5
      have HR45 := Lib.hid (HR4r.out.grew hgx)
      have HBk5 := Lib.hid (HBk.out.grew hgx)
      clear hgx hr5 HG HR4r HBk HRSo
      go_wp2_with fail
      (with_reducible refine (HSl.out w5 A4 k4 A5 k5 HR45.out HR5.out).grows.mono ?_)
      rintro e w6 ⟨rfl, hgx⟩
      have HG6 := Lib.hid (HG5.out.trans hgx)
      have HR46 := Lib.hid (HR45.out.grew hgx)
      have HBk6 := Lib.hid (HBk5.out.grew hgx)
      clear hgx HG5 HR45 HBk5 HR5
      go_wp2_with fail
      refine (HSor.out w6 S cS HBk6.out).mono ?_
      rintro e w7 ⟨A7, k7, rfl, hgx, hr7⟩
      have HG7 := Lib.hid (HG6.out.trans hgx)
      have HR7 := Lib.hid hr7
      have HR47 := Lib.hid (HR46.out.grew hgx)
      clear hgx hr7 HG6 HR46 HBk6 HSor
      go_wp2_with fail
      (with_reducible refine (HSl.out w7 A7 k7 A4 k4 HR7.out HR47.out).grows.mono ?_)
      rintro e w8 ⟨rfl, hgx⟩
      have HG8 := Lib.hid (HG7.out.trans hgx)
      have HR48 := Lib.hid (HR47.out.grew hgx)
      clear hgx HG7 HR47 HR7 HSl
      go_wp2_with fail
      (with_reducible refine (HBs.out w8 A4 k4 HG8.out HR48.out).grows.mono ?_)
      rintro e w9 ⟨rfl, hgx⟩
      have HG9 := Lib.hid (HG8.out.trans hgx)
      clear hgx HG8 HR48 HBs
      go_wp2_with fail
      (with_reducible refine (HBg.out w9 HG9.out).grows.mono ?_)
      rintro e w10 ⟨rfl, hgx⟩
      have HG10 := Lib.hid (HG9.out.trans hgx)
      clear hgx HG9 HBg
      go_wp2_with fail
      (with_reducible refine (HRBg.out w10 HG10.out).grows.mono ?_)
      rintro e w11 ⟨rfl, hgx⟩
      have HG11 := Lib.hid (HG10.out.trans hgx)
      clear hgx HG10 HRBg
      go_wp2_with fail
      (with_reducible refine (HCn.out w11 HG11.out).grows.mono ?_)
      rintro e w12 ⟨rfl, hgx⟩
      have HG12 := Lib.hid (HG11.out.trans hgx)
      clear hgx HG11 HCn
      go_wp2_with fail
      (with_reducible refine (HRCn.out w12 HG12.out).grows.mono ?_)
      rintro e w13 ⟨rfl, hgx⟩
      have HG13 := Lib.hid (HG12.out.trans hgx)
      clear hgx HG12 HRCn
      go_wp2_with fail
      (with_reducible refine (HLive.out w13 HG13.out).grows.mono ?_)
      rintro e w14 ⟨rfl, hgx⟩
      have HG14 := Lib.hid (HG13.out.trans hgx)
      clear hgx HG13 HLive
      go_wp2
      go_ret
      exact ⟨rfl, HG14.out⟩
end Go.Proofs.YtklhledcnijchaaDoor
