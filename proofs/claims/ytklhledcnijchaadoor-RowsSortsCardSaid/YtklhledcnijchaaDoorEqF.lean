/- Layer 4: the same row, by the program. Condition: rows that lie in memory that is there. -/
import Derived.Test.YtklhledcnijchaaDoorRowEq
namespace Go.Proofs.YtklhledcnijchaaDoor
open Go.RowKit
attribute [local go_sem] more_cell more_frozen more_more more_setCell more_of_drew more_of_drewN lt_more le_more past_cell past_cell2 past_frozen past_frozen2 past_setCell past_setCell2 mid_cell mid_frozen mid_setCell
attribute [local go_sem ↓] Go.wp_at_zero Go.wp_at_succ

set_option maxHeartbeats 1000000 in
theorem eqf_any (l l' : List Vl) (A B : Option Addr) (k j : Nat) (hs : l.length ≤ 140737488355328) (t : Bool) (ht : t = true ↔ l = l') (w : World) (ra : VlsR (PRow w) A l) (rb : VlsR (PRow w) B l') :
    Gives Tryd.prog 46 #[.slice A l.length k, .slice B l'.length j, .func (.func 47) #[] #[]] w (.bool t) := by
  have RA := Lib.hid ra
  have RB := Lib.hid rb
  have HT := Lib.hid ht
  clear ra rb ht
  unfold Gives
  by_cases hmm : l.length = l'.length
  · have HM := Lib.hid hmm
    rw [← hmm]
    clear hmm
    have e9 : ((l.length : Int) != (l.length : Int)) = false := by simp
    go_enter Tryd.func46, Tryd.ntmps46
    go_wp2
    go_loopw [17] (fun i wr => EqR4 w l l' i wr) (fun i _ => l.length - (intOf i).toNat)
    case atStart => exact ⟨0, Nat.zero_le _, rfl, Grew.refl w, rfl⟩
    case round =>
      obtain ⟨i, hi, rfl, hg, hk⟩ := hrel
      have HG := Lib.hid hg
      have HK := Lib.hid hk
      clear hg hk
      by_cases h : i < l.length
      · have h2 : i < l'.length := by rw [← HM.out]; exact h
        have e0 : decide ((i : Int) < (l.length : Int)) = true := decide_eq_true (by omega)
        have hil : (i : Int) < (l.length : Int) := by omega
        obtain ⟨b, o, rfl, hb, c0, c1, c2⟩ := vlsR_at (RA.out.grew HG.out) h
        obtain ⟨b', o', rfl, hb', d0, d1, d2⟩ := vlsR_at (RB.out.grew HG.out) h2
        have HN : Hid (l[i] = l'[i] → l.take (i + 1) = l'.take (i + 1)) := Lib.hid fun q => take_eq HK.out h h2 q
        have HF : Hid (¬ l[i] = l'[i] → t = false) := Lib.hid fun q => not_of HT.out (by
          intro e
          subst e
          exact q rfl)
        clear HT HK
        generalize l[i] = x at *
        generalize l'[i] = y at *
        obtain ⟨ts, hts⟩ : ∃ ts, sameV x.k x.i x.s y.k y.i y.s = ts := ⟨_, rfl⟩
        have HC : Hid (∀ W, Gives Tryd.prog 47 #[.agg #[.int .i64 x.k, .int .i64 x.i, .string x.s], .agg #[.int .i64 y.k, .int .i64 y.i, .string y.s]] W (.bool ts)) := Lib.hid fun W => by rw [← hts]; exact same_any _ _ _ _ _ _ _
        have HNs : Hid (ts = true → l.take (i + 1) = l'.take (i + 1)) := Lib.hid fun q => HN.out ((sameV_iff x y).1 (by rw [hts]; exact q))
        have HFs : Hid (ts = false → t = false) := Lib.hid fun q => HF.out fun e => by (have q1 := (sameV_iff x y).2 e; rw [hts, q] at q1; cases q1)
        clear hts HN HF
        generalize x.k = xk at *
        generalize x.i = xi at *
        generalize x.s = xs at *
        generalize y.k = yk at *
        generalize y.i = yi at *
        generalize y.s = ys at *
        go_wp2_with (go_at_call 47; (with_reducible refine (HC.out _).grows.mono ?_); rintro e w5 ⟨rfl, hg5⟩; have HG5 := Lib.hid (show Grew w w5 from ((HG.out.alloc _).alloc _).trans hg5); clear hg5; cases ts)
        · obtain rfl := HFs.out (by trivial)
          go_ret
          exact ⟨rfl, HG5.out⟩
        · exact ⟨⟨i + 1, by omega, by go_num, HG5.out, HNs.out (by trivial)⟩, by simp only [intOf]; omega⟩
      · obtain rfl : i = l.length := by omega
        have e0 : decide ((l.length : Int) < (l.length : Int)) = false := decide_eq_false (by omega)
        have ht : t = true := HT.out.2 (by
          have := HK.out
          rwa [List.take_length, List.take_of_length_le (Nat.le_of_eq HM.out.symm)] at this)
        subst ht
        go_wp2
        go_ret
        exact ⟨rfl, HG.out⟩
  · have hf : t = false := by
      cases t
      · rfl
      · exact absurd (congrArg List.length (HT.out.1 rfl)) hmm
    subst hf
    have e9 : ((l.length : Int) != (l'.length : Int)) = true := by
      rw [bne_iff_ne]
      omega
    clear hmm
    go_enter Tryd.func46, Tryd.ntmps46
    go_wp2
    go_ret
    exact ⟨rfl, Grew.refl w⟩
theorem rowsSame_any (l l' : List Vl) (A B : Option Addr) (k j : Nat) (hs : l.length ≤ 140737488355328) (t : Bool) (ht : t = true ↔ l = l') (w : World) (ra : VlsR (PRow w) A l) (rb : VlsR (PRow w) B l') :
    Gives Tryd.prog 11 #[.slice A l.length k, .slice B l'.length j] w (.bool t) := by
  have HE := Lib.hid (eqf_any l l' A B k j hs t ht w ra rb)
  clear ra rb ht
  unfold Gives
  go_enter Tryd.func11, Tryd.ntmps11
  go_wp2_with (go_at_call 46; (with_reducible refine HE.out.grows.mono ?_); rintro e w5 ⟨rfl, hg5⟩; have HG5 := Lib.hid hg5; clear hg5)
  go_ret
  exact ⟨rfl, HG5.out⟩
end Go.Proofs.YtklhledcnijchaaDoor
