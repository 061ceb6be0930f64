/- Layer 4: how two rows lie, by the document's program. Condition: rows that lie in memory that is there. -/
import Derived.Test.YtklhledcnijchaaDoorOrd5
namespace Go.Proofs.YtklhledcnijchaaDoor
open Go.RowKit
attribute [local go_sem] more_cell more_frozen more_more more_setCell more_of_drew more_of_drewN lt_more le_more past_cell past_cell2 past_frozen past_frozen2 past_setCell past_setCell2 mid_cell mid_frozen mid_setCell
attribute [local go_sem ↓] Go.wp_at_zero Go.wp_at_succ

set_option maxHeartbeats 2000000 in
set_option maxRecDepth 100000 in
theorem rrowsOrder_any (l l' : List Vl) (A B : Option Addr) (k j : Nat) (hs : l.length ≤ 140737488355328) (hz : ∀ v ∈ l, v.s.size ≤ maxLen) (w : World) (ra : VlsR (PRow w) A l) (rb : VlsR (PRow w) B l') :
    Gives Tryd.prog 14 #[.slice A l.length k, .slice B l'.length j] w (.int .i64 (ordRow l l')) := by
  have RA := Lib.hid ra
  have RB := Lib.hid rb
  have HZ := Lib.hid hz
  obtain ⟨r, hr⟩ : ∃ r, ordRow l l' = r := ⟨_, rfl⟩
  have HR0 : Hid (ordRow (l.drop 0) (l'.drop 0) = r) := Lib.hid hr
  rw [hr]
  clear ra rb hr hz
  unfold Gives
  go_enter Tryd.func14, Tryd.ntmps14
  go_wp2
  go_loopw [5] (fun x wr => Or4At w l l' l.length r x wr ∧ ∃ i : Nat, x = .int .i64 (i : Int) ∧ i ≤ l'.length) (fun x _ => l.length - (intOf x).toNat)
  case atStart => exact ⟨⟨0, Nat.zero_le _, rfl, Grew.refl w, HR0.out⟩, 0, rfl, Nat.zero_le _⟩
  case round =>
    obtain ⟨⟨i, hi, rfl, hg, hk⟩, i', he, hi2⟩ := hrel
    injection he with _ he
    obtain rfl : i = i' := by omega
    have HG := Lib.hid hg
    have HK := Lib.hid hk
    clear hg hk HR0 he
    by_cases h : i < l.length ∧ i < l'.length
    · obtain ⟨h1, h2⟩ := h
      have e0 : decide ((i : Int) < (l.length : Int)) = true := decide_eq_true (by omega)
      have e1 : decide ((i : Int) < (l'.length : Int)) = true := decide_eq_true (by omega)
      have hil : (i : Int) < (l.length : Int) := by omega
      have hil2 : (i : Int) < (l'.length : Int) := by omega
      obtain ⟨b, o, rfl, hb, c0, c1, c2⟩ := vlsR_at (RA.out.grew HG.out) h1
      obtain ⟨b', o', rfl, hb', d0, d1, d2⟩ := vlsR_at (RB.out.grew HG.out) h2
      have HS := Lib.hid (HK.out.symm.trans (ordRow_drop h1 h2))
      have hmx := HZ.out _ (List.getElem_mem h1)
      have HC : Hid (∀ W, Gives Tryd.prog 51 #[.agg #[.int .i64 l[i].k, .int .i64 l[i].i, .string l[i].s], .agg #[.int .i64 l'[i].k, .int .i64 l'[i].i, .string l'[i].s]] W (.int .i64 (ordV l[i].k l[i].i l[i].s l'[i].k l'[i].i l'[i].s))) := Lib.hid fun W => rorder_any _ _ _ _ _ _ hmx _
      obtain ⟨ts, hts⟩ : ∃ ts, sameV l[i].k l[i].i l[i].s l'[i].k l'[i].i l'[i].s = ts := ⟨_, rfl⟩
      have HSa : Hid (∀ W, Gives Tryd.prog 48 #[.agg #[.int .i64 l[i].k, .int .i64 l[i].i, .string l[i].s], .agg #[.int .i64 l'[i].k, .int .i64 l'[i].i, .string l'[i].s]] W (.bool ts)) := Lib.hid fun W => by rw [← hts]; exact rsame_any _ _ _ _ _ _ _
      have HY : Hid (ts = true → ordV l[i].k l[i].i l[i].s l'[i].k l'[i].i l'[i].s = 0) := Lib.hid fun q => ordV_zero.2 ((sameV_iff _ _).1 (by rw [hts]; exact q))
      have HN : Hid (ts = false → ordV l[i].k l[i].i l[i].s l'[i].k l'[i].i l'[i].s ≠ 0) := Lib.hid fun q e => by (have q1 := (sameV_iff _ _).2 (ordV_zero.1 e); rw [hts, q] at q1; cases q1)
      clear hmx hts
      generalize ordV l[i].k l[i].i l[i].s l'[i].k l'[i].i l'[i].s = q at *
      generalize l[i].k = xk at *
      generalize l[i].i = xi at *
      generalize l[i].s = xs at *
      generalize l'[i].k = yk at *
      generalize l'[i].i = yi at *
      generalize l'[i].s = ys at *
      clear HK
      go_upto_region 4 with fail
      refine wp_region_more (by kernel_rfl) (by kernel_rfl) ?_
      repeat (go_big_quiet_step (((first | (go_at_call 48; exact (HSa.out _).within)))))
      refine wpQuiet_nil ?_
      rintro _ ⟨z, rfl⟩
      cases ts
      · have hq := HN.out (by trivial)
        obtain rfl : r = q := by rw [HS.out, if_neg hq]
        have gz : Grew wr (more wr z) := (Grew.refl wr).more z
        have HGz := Lib.hid (HG.out.trans gz)
        have c0' := (gz.cell (a := ⟨b, o + i * 3, none⟩) hb).trans c0
        have c1' := (gz.cell (a := ⟨b, o + i * 3 + 1, none⟩) hb).trans c1
        have c2' := (gz.cell (a := ⟨b, o + i * 3 + 2, none⟩) hb).trans c2
        have d0' := (gz.cell (a := ⟨b', o' + i * 3, none⟩) hb').trans d0
        have d1' := (gz.cell (a := ⟨b', o' + i * 3 + 1, none⟩) hb').trans d1
        have d2' := (gz.cell (a := ⟨b', o' + i * 3 + 2, none⟩) hb').trans d2
        have hb2 := Nat.lt_of_lt_of_le hb gz.size
        have hb2' := Nat.lt_of_lt_of_le hb' gz.size
        clear gz c0 c1 c2 d0 d1 d2 hb hb'
        generalize more wr z = wz at *
        go_upto_region 5 with fail
        refine wp_region_more (by kernel_rfl) (by kernel_rfl) ?_
        repeat (go_big_quiet_step (((first | (go_at_call 51; exact (HC.out _).within)))))
        refine wpQuiet_nil ?_
        rintro _ ⟨z, rfl⟩
        go_wp2
        go_ret
        exact ⟨rfl, HGz.out.more z⟩
      · have HS2 : Hid (ordRow (l.drop (i + 1)) (l'.drop (i + 1)) = r) := Lib.hid (by rw [HS.out, if_pos (HY.out (by trivial))])
        go_wp2
        exact ⟨⟨⟨i + 1, by omega, by go_num, HG.out.more z, HS2.out⟩, i + 1, by go_num, by omega⟩, by simp only [intOf]; omega⟩
    · have HE : Hid (r = Lib.compareInt (l.length : Int) (l'.length : Int)) := Lib.hid (HK.out.symm.trans (ordRow_end hi hi2 (by omega)))
      have hor : l.length = i ∨ l'.length = i := by omega
      have e0 : (decide ((i : Int) < (l.length : Int)) && decide ((i : Int) < (l'.length : Int))) = false := by
        rcases hor with q | q
        · rw [decide_eq_false (show ¬ (i : Int) < (l.length : Int) by omega)]
          rfl
        · rw [decide_eq_false (show ¬ (i : Int) < (l'.length : Int) by omega), Bool.and_false]
      clear HK
      rcases Nat.lt_trichotomy l.length l'.length with q | q | q
      · obtain rfl : r = -1 := by rw [HE.out]; unfold Lib.compareInt; rw [if_pos (by omega)]
        have f1 : decide ((l.length : Int) < (l'.length : Int)) = true := decide_eq_true (by omega)
        have f0 : decide ((i : Int) < (l.length : Int)) = false := decide_eq_false (by omega)
        go_wp2
        go_ret
        exact ⟨rfl, HG.out⟩
      · obtain rfl : r = 0 := by rw [HE.out]; unfold Lib.compareInt; rw [if_neg (by omega), if_neg (by omega)]
        have f1 : decide ((l.length : Int) < (l'.length : Int)) = false := decide_eq_false (by omega)
        have f2 : decide ((l'.length : Int) < (l.length : Int)) = false := decide_eq_false (by omega)
        have f0 : decide ((i : Int) < (l.length : Int)) = false := decide_eq_false (by omega)
        go_wp2
        go_ret
        exact ⟨rfl, HG.out⟩
      · obtain rfl : r = 1 := by rw [HE.out]; unfold Lib.compareInt; rw [if_neg (by omega), if_pos (by omega)]
        have f1 : decide ((l.length : Int) < (l'.length : Int)) = false := decide_eq_false (by omega)
        have f2 : decide ((l'.length : Int) < (l.length : Int)) = true := decide_eq_true (by omega)
        have f0 : decide ((i : Int) < (l.length : Int)) = true := decide_eq_true (by omega)
        have f3 : decide ((i : Int) < (l'.length : Int)) = false := decide_eq_false (by omega)
        go_wp2
        go_ret
        exact ⟨rfl, HG.out⟩
end Go.Proofs.YtklhledcnijchaaDoor
