/- Layers 4 and 17: the document's key of a row, and its numbers. Condition: keys of no more than 1000000 letters. -/
import Derived.Test.YtklhledcnijchaaDoorRKey2
namespace Go.Proofs.YtklhledcnijchaaDoor
open Go.RowKit
attribute [local go_sem] more_cell more_frozen more_more more_setCell more_of_drew more_of_drewN lt_more le_more past_cell past_cell2 past_frozen past_frozen2 past_setCell past_setCell2 mid_cell mid_frozen mid_setCell
attribute [local go_sem ↓] Go.wp_at_zero Go.wp_at_succ

def RkAt (w : World) (l : List Vl) (x3 x4 : Value) (wr : World) : Prop := ∃ j : Nat, j ≤ l.length ∧ x3 = .string ⟨(keyRowL (l.take j)).toArray⟩ ∧ x4 = .int .i64 (j : Int) ∧ Grew w wr
set_option maxHeartbeats 2000000 in
set_option maxRecDepth 100000 in
theorem rrowkey_any (l : List Vl) (hl : l.length ≤ 1000) (hs : ∀ v ∈ l, v.s.size ≤ 3000) (A : Option Addr) (k : Nat) (w : World) (h : VlsR (PRow w) A l) :
    Gives Tryd.prog 15 #[.slice A l.length k] w (.string ⟨(keyRowL l).toArray⟩) := by
  have RA := Lib.hid h
  have HS := Lib.hid hs
  have HLn := Lib.hid (keyRowL_len hs)
  clear h hs
  unfold Gives
  go_enter Tryd.func15, Tryd.ntmps15
  go_wp2
  go_loopw [3, 4] (fun x3 x4 wr => RkAt w l x3 x4 wr) (fun _ x _ => l.length - (intOf x).toNat)
  case atStart => exact ⟨0, Nat.zero_le _, by simp [keyRowL], rfl, Grew.refl w⟩
  case round =>
    obtain ⟨j, hj, rfl, rfl, hg⟩ := hrel
    have HG := Lib.hid hg
    clear hg
    by_cases hlt : j < l.length
    · have e0 : decide ((j : Int) < (l.length : Int)) = true := decide_eq_true (by omega)
      have hjl : (j : Int) < (l.length : Int) := by omega
      obtain ⟨b, o, rfl, hb, c0, c1, c2⟩ := vlsR_at (RA.out.grew HG.out) hlt
      have hsz := HS.out _ (List.getElem_mem hlt)
      have HStep := Lib.hid (keyRowL_snoc hlt)
      have HL1 := HLn.out j hj
      have HKs := keyT_size l[j].k l[j].i l[j].s hsz
      have HKey : Hid (∀ W, Gives Tryd.prog 52 #[.agg #[.int .i64 l[j].k, .int .i64 l[j].i, .string l[j].s]] W (.string (keyT l[j].k l[j].i l[j].s))) := Lib.hid fun W => rkey_any _ _ _ hsz W
      have HVl : Hid (keyV l[j] = Lib.itoa ((keyT l[j].k l[j].i l[j].s).size : Nat) ++ (58 :: (keyT l[j].k l[j].i l[j].s).data.toList)) := Lib.hid rfl
      generalize keyT l[j].k l[j].i l[j].s = kt at *
      generalize l[j].k = vk at *
      generalize l[j].i = vi at *
      generalize l[j].s = vs at *
      generalize keyV l[j] = kv at *
      generalize keyRowL (l.take j) = done at *
      have HDi := Lib.hid (fun W => digits_any kt.size (by omega) W)
      have hdl := dec_len kt.size (by omega)
      rw [Lib.itoa_nonneg] at HVl
      generalize Lib.decDigits kt.size = dg at *
      go_wp2_with (first | (go_at_call 52; (with_reducible refine (HKey.out _).grows.mono ?_); rintro e w3 ⟨rfl, hg3⟩; have HG3 := Lib.hid (HG.out.trans hg3); clear hg3) | (go_at_call 53; (with_reducible refine (HDi.out _).mono ?_); rintro e w4 ⟨rfl, hw4⟩; have hw5 := hw4.symm; subst hw5))
      refine ⟨⟨j + 1, by omega, ?_, by go_num, HG3.out⟩, by simp only [intOf]; omega⟩
      rw [HStep.out, HVl.out]
      apply congrArg Value.string
      apply ByteArray.ext
      apply Array.ext'
      simp
    · obtain rfl : j = l.length := by omega
      have e0 : decide ((l.length : Int) < (l.length : Int)) = false := decide_eq_false (by omega)
      rw [List.take_length]
      go_wp2
      go_ret
      exact ⟨rfl, HG.out⟩
theorem row17_any (n : Int) (l : List Vl) (hl : l.length ≤ 1000) (hs : ∀ v ∈ l, v.s.size ≤ 3000) (hk : (keyRowL l).length ≤ 1000000) (A : Option Addr) (k : Nat) (w : World) (h : VlsR (PRow w) A l) (htab : Lib.TabIs Tryd.prog w "internal/strconv.uint64pow10" .u64 Lib.pow10Tab) :
    Gives Tryd.prog 62 #[.int .i64 n, .slice A l.length k] w (.int .u64 (textI n ⟨(keyRowL l).toArray⟩)) := by
  unfold Gives
  have HR := Lib.hid (rkeyrow_any l hl hs A k w h htab)
  have HT := Lib.hid (fun W => textH_any n ⟨(keyRowL l).toArray⟩ hk W)
  clear h hs htab
  go_enter Tryd.func62, Tryd.ntmps62
  go_wp2_with (first | (go_at_call 10; (with_reducible refine HR.out.grows.mono ?_); rintro e w3 ⟨rfl, hg3⟩; have HG3 := Lib.hid hg3; clear hg3) | (go_at_call 86; (with_reducible refine (HT.out _).mono ?_); rintro e w' ⟨rfl, hw⟩; have hw2 := hw.symm; subst hw2))
  go_ret
  exact ⟨rfl, HG3.out⟩
end Go.Proofs.YtklhledcnijchaaDoor
