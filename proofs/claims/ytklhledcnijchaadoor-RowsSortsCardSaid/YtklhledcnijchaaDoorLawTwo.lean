/- Layer 4: the law of two rows. Condition: rows that lie in memory that is there; the library's table of powers. -/
import Derived.Test.YtklhledcnijchaaDoorRKey3
import Derived.Test.YtklhledcnijchaaDoorGoodRow
import Derived.Test.YtklhledcnijchaaDoorHeld
import Derived.Test.YtklhledcnijchaaDoorKeyM
import Derived.Test.YtklhledcnijchaaDoorOrd6
namespace Go.Proofs.YtklhledcnijchaaDoor
open Go.RowKit
attribute [local go_sem] more_cell more_frozen more_more more_setCell more_of_drew more_of_drewN lt_more le_more past_cell past_cell2 past_frozen past_frozen2 past_setCell past_setCell2 mid_cell mid_frozen mid_setCell
attribute [local go_sem ↓] Go.wp_at_zero Go.wp_at_succ

theorem rws_two {W : World} {g : Nat} {A B : Option Addr} {a b : List Vl} {k j : Nat} (h : Row W (some ⟨g, 0, none⟩) [.slice A a.length k, .slice B b.length j]) (hk : a.length ≤ k) (hj : b.length ≤ j) (h2 : VlsR (PRow W) A a) (h3 : VlsR (PRow W) B b) : RwsR (PRow W) (some ⟨g, 0, none⟩) [a, b] :=
  ⟨[[.slice A a.length k], [.slice B b.length j]], ⟨rfl, fun i x cs hi hd => by
    rcases i with _ | _ | i
    · simp only [List.getElem?_cons_zero, Option.some.injEq] at hi hd
      subst hi hd
      exact ⟨⟨A, k, rfl, hk, h2⟩, rfl⟩
    · simp only [List.getElem?_cons_zero, List.getElem?_cons_succ, Option.some.injEq] at hi hd
      subst hi hd
      exact ⟨⟨B, j, rfl, hj, h3⟩, rfl⟩
    · simp at hi⟩, by simpa [PRow] using h⟩
theorem good_two {a b : List Vl} (h : goodRws [a, b]) : goodRws [a] ∧ goodRws [b] := by
  obtain ⟨_, h2, h3⟩ := h
  have e : szRs [a, b] = szR a + szR b := by simp [szRs]
  have e1 : szRs [a] = szR a := by simp [szRs]
  have e2 : szRs [b] = szR b := by simp [szRs]
  exact ⟨⟨by simp, fun r hr => h2 r (by simp at hr; simp [hr]), by omega⟩, ⟨by simp, fun r hr => h2 r (by simp at hr; simp [hr]), by omega⟩⟩
def liveR : List Vl := [⟨0, 0, ⟨#[]⟩⟩, ⟨2, 0, ⟨#[97]⟩⟩]
theorem liveR_key : keyRowL liveR = [49, 58, 110, 50, 58, 116, 97] := by
  have e1 : (keyT 0 0 ⟨#[]⟩).size = 1 := rfl
  have e2 : (keyT 2 0 ⟨#[97]⟩).size = 2 := rfl
  simp only [liveR, keyRowL, keyV, List.map_cons, List.map_nil, List.flatten_cons, List.flatten_nil, e1, e2, Lib.itoa_nonneg, Lib.decDigits_one (show 1 < 10 by decide), Lib.decDigits_one (show 2 < 10 by decide)]
  rfl
theorem liveR_row (w : World) : VlsR (PRow (w.alloc (.cells #[.int .i64 0, .int .i64 0, .string ⟨#[]⟩, .int .i64 2, .int .i64 0, .string ⟨#[97]⟩] 31))) (some ⟨w.heap.size, 0, none⟩) liveR :=
  ⟨[[.int .i64 0, .int .i64 0, .string ⟨#[]⟩], [.int .i64 2, .int .i64 0, .string ⟨#[97]⟩]], ⟨rfl, fun i x cs hi hd => by
    rcases i with _ | _ | i
    · simp only [liveR, List.getElem?_cons_zero, Option.some.injEq] at hi hd
      subst hi hd
      exact ⟨rfl, rfl⟩
    · simp only [liveR, List.getElem?_cons_zero, List.getElem?_cons_succ, Option.some.injEq] at hi hd
      subst hi hd
      exact ⟨rfl, rfl⟩
    · simp at hd⟩, row_new w _ _ _ rfl⟩
set_option maxHeartbeats 1000000 in
theorem live04_any (w : World) (htab : Lib.TabIs Tryd.prog w "internal/strconv.uint64pow10" .u64 Lib.pow10Tab) : Gives Tryd.prog 9 #[] w (.bool true) := by
  have HK : Hid (Gives Tryd.prog 10 #[.slice (some ⟨w.heap.size, 0, none⟩) 2 2] (w.alloc (.cells #[.int .i64 0, .int .i64 0, .string ⟨#[]⟩, .int .i64 2, .int .i64 0, .string ⟨#[97]⟩] 31)) (.string ⟨#[49, 58, 110, 50, 58, 116, 97]⟩)) := Lib.hid (by
    have h := rkeyrow_any liveR (by decide) (by intro v hv; simp only [liveR, List.mem_cons, List.not_mem_nil, or_false] at hv; rcases hv with rfl | rfl <;> decide) _ 2 _ (liveR_row w) (tab_grew htab ((Grew.refl w).alloc _))
    rw [liveR_key] at h
    exact h)
  clear htab
  unfold Gives
  go_enter Tryd.func9, Tryd.ntmps9
  go_wp2_with (go_at_call 10; (with_reducible refine HK.out.grows.mono ?_); rintro e w1 ⟨rfl, hg1⟩; have HG1 := Lib.hid (show Grew w w1 from ((Grew.refl w).alloc _).trans hg1); clear hg1)
  go_ret
  exact ⟨rfl, HG1.out⟩
def RtAt (w : World) (l : List Vl) (i : Value) (wr : World) : Prop := ∃ q : Nat, q ≤ l.length ∧ i = .int .i64 q ∧ Grew w wr ∧ rightR (l.take q)
theorem right_step {l : List Vl} {q : Nat} (h : q < l.length) (h1 : rightR (l.take q)) (h2 : rightV l[q].k l[q].i l[q].s = true) : rightR (l.take (q + 1)) := by
  intro v hv
  rw [List.take_succ_eq_append_getElem h] at hv
  rcases List.mem_append.1 hv with hv | hv
  · exact h1 v hv
  · simp only [List.mem_cons, List.not_mem_nil, or_false] at hv
    rw [hv]
    exact h2
set_option maxHeartbeats 8000000 in
set_option maxRecDepth 100000 in
theorem rowsTwo_walk (a b : List Vl) (A B : Option Addr) (k j : Nat) (w : World) (ha : RwOk a) (hb : RwOk b) (hk : a.length ≤ k) (hj : b.length ≤ j) (ra : VlsR (PRow w) A a) (rb : VlsR (PRow w) B b) (htab : Lib.TabIs Tryd.prog w "internal/strconv.uint64pow10" .u64 Lib.pow10Tab) :
    Gives Tryd.prog 3 #[.slice A a.length k, .slice B b.length j] w (.bool true) := by
  have HM : Hid (Calls Tryd.prog 8 #[.slice (some ⟨w.heap.size, 0, none⟩) 2 2] (w.alloc (.cells #[.slice A a.length k, .slice B b.length j] 22)) (MuchR (w.alloc (.cells #[.slice A a.length k, .slice B b.length j] 22)) (goodRws [a, b]))) := Lib.hid
    (much4_any [a, b] ⟨by simp, by intro r hr; simp only [List.mem_cons, List.not_mem_nil, or_false] at hr; rcases hr with rfl | rfl; exact ha; exact hb⟩ (some ⟨w.heap.size, 0, none⟩) 2 _ (rws_two (row_new w _ _ _ rfl) hk hj (ra.grew ((Grew.refl w).alloc _)) (rb.grew ((Grew.refl w).alloc _))))
  have HLive : Hid (∀ W, Grew w W → Gives Tryd.prog 9 #[] W (.bool true)) := Lib.hid fun W hW => live04_any W (tab_grew htab hW)
  have RA := Lib.hid ra
  have RB := Lib.hid rb
  have HTab := Lib.hid htab
  obtain ⟨sm, hsm⟩ := some_of (a = b)
  have HSm := Lib.hid hsm
  have HOne : Hid (rightR a → rightR b → ((⟨(keyRowL a).toArray⟩ : ByteArray).toList == (⟨(keyRowL b).toArray⟩ : ByteArray).toList) = sm) := Lib.hid fun h1 h2 => by
    rw [ByteArray.toList_eq, ByteArray.toList_eq, Bool.eq_iff_iff, beq_iff_eq, hsm]
    constructor
    · intro h
      exact keyRow_one a b ha.2 hb.2 h1 h2 (by simpa using h)
    · rintro rfl
      rfl
  have hla := ha.1
  have hlb := hb.1
  clear ra rb htab hsm ha hb hk hj
  unfold Gives
  go_enter Tryd.func3, Tryd.ntmps3
  go_wp2_with fail
  refine HM.out.mono ?_
  rintro e w1 ⟨t, rfl, hg1, h1⟩
  have HG1 := Lib.hid (show Grew w w1 from ((Grew.refl w).alloc _).trans hg1)
  have HGood := Lib.hid h1
  clear hg1 h1 HM
  cases t
  rotate_left
  · go_wp2_with (go_at_call 9; (with_reducible refine (HLive.out _ HG1.out).grows.mono ?_); rintro e w5 ⟨rfl, hg5⟩; have HG5 := Lib.hid (show Grew w w5 from HG1.out.trans hg5); clear hg5)
    go_ret
    exact ⟨rfl, HG5.out⟩
  obtain ⟨ga, gb⟩ := good_two (HGood.out rfl)
  obtain ⟨a1, a2, a3⟩ := good_row ga
  obtain ⟨b1, b2, b3⟩ := good_row gb
  have HKa : Hid (∀ W, Grew w W → Gives Tryd.prog 10 #[.slice A a.length k] W (.string ⟨(keyRowL a).toArray⟩)) := Lib.hid fun W hW => rkeyrow_any a (by omega) a2 A k W (RA.out.grew hW) (tab_grew HTab.out hW)
  have HKb : Hid (∀ W, Grew w W → Gives Tryd.prog 10 #[.slice B b.length j] W (.string ⟨(keyRowL b).toArray⟩)) := Lib.hid fun W hW => rkeyrow_any b (by omega) b2 B j W (RB.out.grew hW) (tab_grew HTab.out hW)
  have HRa : Hid (∀ W, Grew w W → Gives Tryd.prog 15 #[.slice A a.length k] W (.string ⟨(keyRowL a).toArray⟩)) := Lib.hid fun W hW => rrowkey_any a (by omega) a2 A k _ (RA.out.grew hW)
  have HRb : Hid (∀ W, Grew w W → Gives Tryd.prog 15 #[.slice B b.length j] W (.string ⟨(keyRowL b).toArray⟩)) := Lib.hid fun W hW => rrowkey_any b (by omega) b2 B j _ (RB.out.grew hW)
  have HSa : Hid (∀ W, Grew w W → Gives Tryd.prog 11 #[.slice A a.length k, .slice B b.length j] W (.bool sm)) := Lib.hid fun W hW => rowsSame_any a b A B k j hla sm HSm.out W (RA.out.grew hW) (RB.out.grew hW)
  have HRs : Hid (∀ W, Grew w W → Gives Tryd.prog 12 #[.slice A a.length k, .slice B b.length j] W (.bool sm)) := Lib.hid fun W hW => rsameRow_any a b A B k j hla sm HSm.out W (RA.out.grew hW) (RB.out.grew hW)
  have HOr : Hid (∀ W, Grew w W → Gives Tryd.prog 13 #[.slice A a.length k, .slice B b.length j] W (.int .i64 (ordRow a b))) := Lib.hid fun W hW => rowsOrder_any a b A B k j hla W (RA.out.grew hW) (RB.out.grew hW)
  have HRo : Hid (∀ W, Grew w W → Gives Tryd.prog 14 #[.slice A a.length k, .slice B b.length j] W (.int .i64 (ordRow a b))) := Lib.hid fun W hW => rrowsOrder_any a b A B k j hla (fun v hv => Nat.le_trans (a2 v hv) (by unfold maxLen; decide)) W (RA.out.grew hW) (RB.out.grew hW)
  clear ga gb a1 a2 a3 b1 b2 b3 HGood HTab
  generalize (⟨(keyRowL a).toArray⟩ : ByteArray) = ta at *
  generalize (⟨(keyRowL b).toArray⟩ : ByteArray) = tb at *
  generalize ordRow a b = oo at *
  have q1 : (ta.toList != ta.toList) = false := by simp
  have q2 : (tb.toList != tb.toList) = false := by simp
  have q3 : (sm != sm) = false := by simp
  have q4 : (oo != oo) = false := by simp
  go_wp2_with fail
  (with_reducible refine (HKa.out _ HG1.out).grows.mono ?_)
  rintro e wa ⟨rfl, hga⟩
  have HGa := Lib.hid (show Grew w wa from HG1.out.trans hga)
  clear hga
  go_wp2_with fail
  (with_reducible refine (HKb.out _ HGa.out).grows.mono ?_)
  rintro e w2 ⟨rfl, hg2⟩
  have HG2 := Lib.hid (show Grew w w2 from HGa.out.trans hg2)
  clear hg2 HGa HG1 HKa HKb
  go_wp2_with fail
  (with_reducible refine (HSa.out _ HG2.out).grows.mono ?_)
  rintro e w3 ⟨rfl, hgx⟩
  have HG3 := Lib.hid (show Grew w w3 from HG2.out.trans hgx)
  clear hgx HG2
  go_wp2_with fail
  (with_reducible refine (HRs.out _ HG3.out).grows.mono ?_)
  rintro e w4 ⟨rfl, hgx⟩
  have HG4 := Lib.hid (show Grew w w4 from HG3.out.trans hgx)
  clear hgx HG3
  go_wp2_with fail
  (with_reducible refine (HOr.out _ HG4.out).grows.mono ?_)
  rintro e w5 ⟨rfl, hgx⟩
  have HG5 := Lib.hid (show Grew w w5 from HG4.out.trans hgx)
  clear hgx HG4
  go_wp2_with fail
  (with_reducible refine (HRo.out _ HG5.out).grows.mono ?_)
  rintro e w6 ⟨rfl, hgx⟩
  have HG6 := Lib.hid (show Grew w w6 from HG5.out.trans hgx)
  clear hgx HG5
  go_wp2_with fail
  (with_reducible refine (HRa.out _ HG6.out).grows.mono ?_)
  rintro e w7 ⟨rfl, hgx⟩
  have HG7 := Lib.hid (show Grew w w7 from HG6.out.trans hgx)
  clear hgx HG6
  go_wp2_with fail
  (with_reducible refine (HRb.out _ HG7.out).grows.mono ?_)
  rintro e w8 ⟨rfl, hgx⟩
  have HG8 := Lib.hid (show Grew w w8 from HG7.out.trans hgx)
  clear hgx HG7
  go_wp2
  go_loopw [7] (fun i wr => RtAt w a i wr) (fun i _ => a.length - (intOf i).toNat)
  case atStart => exact ⟨0, Nat.zero_le _, rfl, HG8.out, by intro v hv; simp at hv⟩
  case round =>
    obtain ⟨q, hq, rfl, hg, hr⟩ := hrel
    have HG := Lib.hid hg
    have HR := Lib.hid hr
    clear hg hr HG8
    by_cases h : q < a.length
    · have e0 : decide ((q : Int) < (a.length : Int)) = true := decide_eq_true (by omega)
      have hqi : (q : Int) < (a.length : Int) := by omega
      obtain ⟨pb, po, rfl, hpb, c0, c1, c2⟩ := vlsR_at (RA.out.grew HG.out) h
      have HStep : Hid (rightV a[q].k a[q].i a[q].s = true → rightR (a.take (q + 1))) := Lib.hid (right_step h HR.out)
      have HRt : Hid (∀ W, Gives Tryd.prog 16 #[.agg #[.int .i64 a[q].k, .int .i64 a[q].i, .string a[q].s]] W (.bool (rightV a[q].k a[q].i a[q].s))) := Lib.hid fun W => rright_any _ _ _ W
      generalize rightV a[q].k a[q].i a[q].s = rt at *
      generalize a[q].k = vk at *
      generalize a[q].i = vi at *
      generalize a[q].s = vs at *
      go_wp2_with fail
      (with_reducible refine (HRt.out _).grows.mono ?_)
      rintro e w9 ⟨rfl, hgx⟩
      have HG9 := Lib.hid (show Grew w w9 from HG.out.trans hgx)
      clear hgx HG
      cases rt
      · go_wp2_with (go_at_call 9; (with_reducible refine (HLive.out _ HG9.out).grows.mono ?_); rintro e w5 ⟨rfl, hg5⟩; have HG5 := Lib.hid (HG9.out.trans hg5); clear hg5)
        go_ret
        exact ⟨rfl, HG5.out⟩
      · go_wp2
        exact ⟨⟨q + 1, by omega, by go_num, HG9.out, HStep.out (by first | rfl | trivial)⟩, by simp only [intOf]; omega⟩
    · obtain rfl : q = a.length := by omega
      have HRA : Hid (rightR a) := Lib.hid (by have := HR.out; rwa [List.take_length] at this)
      clear HR
      go_wp2
      go_loopw [8] (fun i wr => RtAt w b i wr) (fun i _ => b.length - (intOf i).toNat)
      case atStart => exact ⟨0, Nat.zero_le _, rfl, HG.out, by intro v hv; simp at hv⟩
      case round =>
        obtain ⟨p, hp, rfl, hg, hr⟩ := hrel
        have HH := Lib.hid hg
        have HR := Lib.hid hr
        clear hg hr HG
        by_cases h : p < b.length
        · have e0 : decide ((p : Int) < (b.length : Int)) = true := decide_eq_true (by omega)
          have hpi : (p : Int) < (b.length : Int) := by omega
          obtain ⟨pb, po, rfl, hpb, c0, c1, c2⟩ := vlsR_at (RB.out.grew HH.out) h
          have HStep : Hid (rightV b[p].k b[p].i b[p].s = true → rightR (b.take (p + 1))) := Lib.hid (right_step h HR.out)
          have HRt : Hid (∀ W, Gives Tryd.prog 16 #[.agg #[.int .i64 b[p].k, .int .i64 b[p].i, .string b[p].s]] W (.bool (rightV b[p].k b[p].i b[p].s))) := Lib.hid fun W => rright_any _ _ _ W
          generalize rightV b[p].k b[p].i b[p].s = rt at *
          generalize b[p].k = vk at *
          generalize b[p].i = vi at *
          generalize b[p].s = vs at *
          go_wp2_with fail
          (with_reducible refine (HRt.out _).grows.mono ?_)
          rintro e w9 ⟨rfl, hgx⟩
          have HG9 := Lib.hid (show Grew w w9 from HH.out.trans hgx)
          clear hgx HH
          cases rt
          · go_wp2_with (go_at_call 9; (with_reducible refine (HLive.out _ HG9.out).grows.mono ?_); rintro e w5 ⟨rfl, hg5⟩; have HG5 := Lib.hid (HG9.out.trans hg5); clear hg5)
            go_ret
            exact ⟨rfl, HG5.out⟩
          · go_wp2
            exact ⟨⟨p + 1, by omega, by go_num, HG9.out, HStep.out (by first | rfl | trivial)⟩, by simp only [intOf]; omega⟩
        · obtain rfl : p = b.length := by omega
          have HRB : Hid (rightR b) := Lib.hid (by have := HR.out; rwa [List.take_length] at this)
          clear HR
          have q5 : ((ta.toList == tb.toList) == sm) = true := by rw [HOne.out HRA.out HRB.out]; simp
          go_wp2_with fail
          (with_reducible refine (HRs.out _ HH.out).grows.mono ?_)
          rintro e w17 ⟨rfl, hgx⟩
          have HG17 := Lib.hid (show Grew w w17 from HH.out.trans hgx)
          clear hgx HH
          go_wp2_with fail
          (with_reducible refine (HLive.out _ HG17.out).grows.mono ?_)
          rintro e w18 ⟨rfl, hgx⟩
          have HG18 := Lib.hid (show Grew w w18 from HG17.out.trans hgx)
          clear hgx HG17
          go_wp2
          go_ret
          exact ⟨rfl, HG18.out⟩
end Go.Proofs.YtklhledcnijchaaDoor
