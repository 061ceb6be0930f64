/- Layer 4: how two rows lie, by the program. Condition: rows that lie in memory that is there. -/
import Derived.Test.YtklhledcnijchaaDoorEqF
namespace Go.Proofs.YtklhledcnijchaaDoor
open Go.RowKit
attribute [local go_sem] more_cell more_frozen more_more more_setCell more_of_drew more_of_drewN lt_more le_more past_cell past_cell2 past_frozen past_frozen2 past_setCell past_setCell2 mid_cell mid_frozen mid_setCell
attribute [local go_sem ↓] Go.wp_at_zero Go.wp_at_succ

/-- How two rows lie. -/
def ordRow : List Vl → List Vl → Int
  | [], [] => 0
  | [], _ :: _ => -1
  | _ :: _, [] => 1
  | x :: a, y :: b => if ordV x.k x.i x.s y.k y.i y.s = 0 then ordRow a b else ordV x.k x.i x.s y.k y.i y.s
theorem ordRow_drop {l l' : List Vl} {i : Nat} (h : i < l.length) (h2 : i < l'.length) : ordRow (l.drop i) (l'.drop i) = if ordV l[i].k l[i].i l[i].s l'[i].k l'[i].i l'[i].s = 0 then ordRow (l.drop (i + 1)) (l'.drop (i + 1)) else ordV l[i].k l[i].i l[i].s l'[i].k l'[i].i l'[i].s := by
  rw [List.drop_eq_getElem_cons h, List.drop_eq_getElem_cons h2]
  rfl
theorem ordRow_end {l l' : List Vl} {i : Nat} (hle : i ≤ l.length) (hle2 : i ≤ l'.length) (h1 : l.length = i ∨ l'.length = i) : ordRow (l.drop i) (l'.drop i) = Lib.compareInt (l.length : Int) (l'.length : Int) := by
  unfold Lib.compareInt
  rcases Nat.lt_or_ge i l.length with h | h
  · have h2 : l'.length = i := by omega
    rw [List.drop_eq_getElem_cons h, List.drop_of_length_le (show l'.length ≤ i by omega), if_neg (by omega), if_pos (by omega)]
    rfl
  · rw [List.drop_of_length_le h]
    rcases Nat.lt_or_ge i l'.length with h3 | h3
    · rw [List.drop_eq_getElem_cons h3, if_pos (by omega)]
      rfl
    · rw [List.drop_of_length_le h3, if_neg (by omega), if_neg (by omega)]
      rfl
def Or4At (w : World) (l l' : List Vl) (m : Nat) (r : Int) (x : Value) (wr : World) : Prop := ∃ i : Nat, i ≤ m ∧ x = .int .i64 (i : Int) ∧ Grew w wr ∧ ordRow (l.drop i) (l'.drop i) = r
set_option maxHeartbeats 2000000 in
set_option maxRecDepth 100000 in
theorem rowsOrder_any (l l' : List Vl) (A B : Option Addr) (k j : Nat) (hs : l.length ≤ 140737488355328) (w : World) (ra : VlsR (PRow w) A l) (rb : VlsR (PRow w) B l') :
    Gives Tryd.prog 13 #[.slice A l.length k, .slice B l'.length j] w (.int .i64 (ordRow l l')) := by
  have RA := Lib.hid ra
  have RB := Lib.hid rb
  obtain ⟨r, hr⟩ : ∃ r, ordRow l l' = r := ⟨_, rfl⟩
  have HR0 : Hid (ordRow (l.drop 0) (l'.drop 0) = r) := Lib.hid hr
  rw [hr]
  obtain ⟨m, hm, hm1, hm2, hm3⟩ : ∃ m : Nat, min (l.length : Int) (l'.length : Int) = (m : Int) ∧ m ≤ l.length ∧ m ≤ l'.length ∧ (l.length = m ∨ l'.length = m) := by
    by_cases h : l.length ≤ l'.length
    · exact ⟨l.length, by omega, Nat.le_refl _, h, Or.inl rfl⟩
    · exact ⟨l'.length, by omega, by omega, Nat.le_refl _, Or.inr rfl⟩
  clear ra rb hr
  unfold Gives
  go_enter Tryd.func13, Tryd.ntmps13
  go_wp2
  go_loopw [12] (fun x wr => Or4At w l l' m r x wr) (fun x _ => m - (intOf x).toNat)
  case atStart => exact ⟨0, Nat.zero_le _, rfl, Grew.refl w, HR0.out⟩
  case round =>
    obtain ⟨i, hi, rfl, hg, hk⟩ := hrel
    have HG := Lib.hid hg
    have HK := Lib.hid hk
    clear hg hk HR0
    by_cases h : i < m
    · have h1 : i < l.length := by omega
      have h2 : i < l'.length := by omega
      have e0 : decide ((i : Int) < (m : Int)) = true := decide_eq_true (by omega)
      have hil : (i : Int) < (l.length : Int) := by omega
      have hil2 : (i : Int) < (l'.length : Int) := by omega
      obtain ⟨b, o, rfl, hb, c0, c1, c2⟩ := vlsR_at (RA.out.grew HG.out) h1
      obtain ⟨b', o', rfl, hb', d0, d1, d2⟩ := vlsR_at (RB.out.grew HG.out) h2
      have HS := Lib.hid (HK.out.symm.trans (ordRow_drop h1 h2))
      have HC : Hid (∀ W, Gives Tryd.prog 49 #[.agg #[.int .i64 l[i].k, .int .i64 l[i].i, .string l[i].s], .agg #[.int .i64 l'[i].k, .int .i64 l'[i].i, .string l'[i].s]] W (.int .i64 (ordV l[i].k l[i].i l[i].s l'[i].k l'[i].i l'[i].s))) := Lib.hid fun W => order_any _ _ _ _ _ _ _
      generalize ordV l[i].k l[i].i l[i].s l'[i].k l'[i].i l'[i].s = q at *
      generalize l[i].k = xk at *
      generalize l[i].i = xi at *
      generalize l[i].s = xs at *
      generalize l'[i].k = yk at *
      generalize l'[i].i = yi at *
      generalize l'[i].s = ys at *
      clear HK
      go_upto_region 4 with fail
      refine wp_region_more (by kernel_rfl) (by kernel_rfl) ?_
      repeat (go_big_quiet_step (((first | (go_at_call 49; exact (HC.out _).within)))))
      refine wpQuiet_nil ?_
      rintro _ ⟨z, rfl⟩
      by_cases hq : q = 0
      · have HS2 : Hid (ordRow (l.drop (i + 1)) (l'.drop (i + 1)) = r) := Lib.hid (by rw [HS.out, if_pos hq])
        subst hq
        go_wp2
        exact ⟨⟨i + 1, by omega, by go_num, HG.out.more z, HS2.out⟩, by simp only [intOf]; omega⟩
      · obtain rfl : r = q := by rw [HS.out, if_neg hq]
        have hq2 : (r != 0) = true := by rw [bne_iff_ne]; exact hq
        go_wp2
        go_ret
        exact ⟨rfl, HG.out.more z⟩
    · obtain rfl : i = m := by omega
      have e0 : decide ((i : Int) < (i : Int)) = false := decide_eq_false (by omega)
      have HE := Lib.hid (HK.out.symm.trans (ordRow_end hm1 hm2 hm3))
      have HC := Lib.hid (fun W => Tryd.cmp_Compare_int (l.length : Int) (l'.length : Int) W)
      rw [← HE.out] at HC
      clear HE HK
      go_wp2_with (go_at_call 50; (with_reducible refine (HC.out _).mono ?_); rintro e w5 ⟨rfl, hw5⟩; have hw6 := hw5.symm; subst hw6)
      go_ret
      exact ⟨rfl, HG.out⟩
end Go.Proofs.YtklhledcnijchaaDoor
