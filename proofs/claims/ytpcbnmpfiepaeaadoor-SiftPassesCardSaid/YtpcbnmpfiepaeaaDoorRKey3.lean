/- Layers 4 and 17: the document's key of a row, and its numbers. Condition: keys of no more than 1000000 letters. -/
import Derived.Test.YtpcbnmpfiepaeaaDoorRKey2
namespace Go.Proofs.YtpcbnmpfiepaeaaDoor
open Go.RowKit
attribute [local go_sem] more_cell more_frozen more_more more_setCell more_of_drew more_of_drewN lt_more le_more past_cell past_cell2 past_frozen past_frozen2 past_setCell past_setCell2 mid_cell mid_frozen mid_setCell
attribute [local go_sem ↓] Go.wp_at_zero Go.wp_at_succ

def RkAt (w : World) (l : List Vl) (x3 x4 : Value) (wr : World) : Prop := ∃ j : Nat, j ≤ l.length ∧ x3 = .string ⟨(keyRowL (l.take j)).toArray⟩ ∧ x4 = .int .i64 (j : Int) ∧ Grew w wr
set_option maxHeartbeats 2000000 in
set_option maxRecDepth 100000 in
theorem rrowkey_any (l : List Vl) (hl : l.length ≤ 1000) (hs : ∀ v ∈ l, v.s.size ≤ 3000) (A : Option Addr) (k : Nat) (w : World) (h : VlsR (PRow w) A l) :
    Gives Tryd.prog 43 #[.slice A l.length k] w (.string ⟨(keyRowL l).toArray⟩) := by
  have RA := Lib.hid h
  have HS := Lib.hid hs
  have HLn := Lib.hid (keyRowL_len hs)
  clear h hs
  unfold Gives
  go_enter Tryd.func43, Tryd.ntmps43
  go_wp2
  go_loopw [3, 4] (fun x3 x4 wr => RkAt w l x3 x4 wr) (fun _ x _ => l.length - (intOf x).toNat)
  case atStart => exact ⟨0, Nat.zero_le _, by simp [keyRowL], rfl, Grew.refl w⟩
  case round =>
    obtain ⟨j, hj, rfl, rfl, hg⟩ := hrel
    have HG := Lib.hid hg
    clear hg
    by_cases hlt : j < l.length
    · have e0 : decide ((j : Int) < (l.length : Int)) = true := decide_eq_true (by omega)
      have hjl : (j : Int) < (l.length : Int) := by omega
      obtain ⟨b, o, rfl, hb, c0, c1, c2⟩ := vlsR_at (RA.out.grew HG.out) hlt
      have hsz := HS.out _ (List.getElem_mem hlt)
      have HStep := Lib.hid (keyRowL_snoc hlt)
      have HL1 := HLn.out j hj
      have HKs := keyT_size l[j].k l[j].i l[j].s hsz
      have HKey : Hid (∀ W, Gives Tryd.prog 61 #[.agg #[.int .i64 l[j].k, .int .i64 l[j].i, .string l[j].s]] W (.string (keyT l[j].k l[j].i l[j].s))) := Lib.hid fun W => rkey_any _ _ _ hsz W
      have HVl : Hid (keyV l[j] = Lib.itoa ((keyT l[j].k l[j].i l[j].s).size : Nat) ++ (58 :: (keyT l[j].k l[j].i l[j].s).data.toList)) := Lib.hid rfl
      generalize keyT l[j].k l[j].i l[j].s = kt at *
      generalize l[j].k = vk at *
      generalize l[j].i = vi at *
      generalize l[j].s = vs at *
      generalize keyV l[j] = kv at *
      generalize keyRowL (l.take j) = done at *
      have HDi := Lib.hid (fun W => digits_any kt.size (by omega) W)
      have hdl := dec_len kt.size (by omega)
      rw [Lib.itoa_nonneg] at HVl
      generalize Lib.decDigits kt.size = dg at *
      go_wp2_with (first | (go_at_call 61; (with_reducible refine (HKey.out _).grows.mono ?_); rintro e w3 ⟨rfl, hg3⟩; have HG3 := Lib.hid (HG.out.trans hg3); clear hg3) | (go_at_call 62; (with_reducible refine (HDi.out _).mono ?_); rintro e w4 ⟨rfl, hw4⟩; have hw5 := hw4.symm; subst hw5))
      refine ⟨⟨j + 1, by omega, ?_, by go_num, HG3.out⟩, by simp only [intOf]; omega⟩
      rw [HStep.out, HVl.out]
      apply congrArg Value.string
      apply ByteArray.ext
      apply Array.ext'
      simp
    · obtain rfl : j = l.length := by omega
      have e0 : decide ((l.length : Int) < (l.length : Int)) = false := decide_eq_false (by omega)
      rw [List.take_length]
      go_wp2
      go_ret
      exact ⟨rfl, HG.out⟩
set_option maxHeartbeats 2000000 in
theorem rtext_any (n : Int) (s : ByteArray) (hs : s.size ≤ 1000000) (w : World) : Calls Tryd.prog 42 #[.int .i64 n, .string s] w fun e w' => e = .returned (.int .u64 (textI n s)) ∧ w' = w := by
  have HM0 : Hid (∀ W, Calls Tryd.prog 60 #[.int .u64 (IntKind.u64.wrap (IntKind.u64.wrap n + 2685821657736338717))] W fun e w' => e = .returned (.int .u64 (startI n)) ∧ w' = W) := Lib.hid fun W => rmix_any _ (wrap_uI _) W
  go_enter Tryd.func42, Tryd.ntmps42
  go_wp2_with (go_at_call 60; (with_reducible refine (HM0.out _).mono ?_); rintro e w3 ⟨rfl, hw3⟩; have hw4 := hw3.symm; subst hw4)
  go_loop [5, 6] (fun h i => TextAt n s h i) (fun _ i => s.size - (intOf i).toNat)
  case atStart => exact ⟨0, Nat.zero_le _, rfl, rfl⟩
  case round =>
    obtain ⟨k, hk, rfl, rfl⟩ := hrel
    have HU := Lib.hid (bytesI_uI n (s.data.toList.take k))
    by_cases h : k < s.size
    · have HT := Lib.hid (bytesI_take n s k h)
      have hb : s[k].toNat < 256 := s[k].toNat_lt
      have hu0 : 0 ≤ bytesI n (s.data.toList.take k) := HU.out.1
      have hu1 : bytesI n (s.data.toList.take k) < 18446744073709551616 := HU.out.2
      have e0 : decide ((k : Int) < (s.size : Int)) = true := decide_eq_true (by omega)
      have hki : (k : Int) < (s.size : Int) := by omega
      have HBy : Hid (∀ x : Int, byteI x (s[k].toNat : Int) = IntKind.u64.wrap (bits .xor .u64 x (s[k].toNat : Int) * 1099511628211)) := Lib.hid fun x => rfl
      generalize bytesI n (s.data.toList.take k) = x at HU HT hu0 hu1
      go_wp2
      exact ⟨⟨k + 1, by omega, by simp, by rw [HT.out, HBy.out]⟩, by simp only [intOf]; omega⟩
    · obtain rfl : k = s.size := by omega
      have ht : s.data.toList.take s.size = s.data.toList := List.take_of_length_le (by simp)
      rw [ht] at HU
      rw [ht]
      have e0 : decide ((s.size : Int) < (s.size : Int)) = false := decide_eq_false (by omega)
      go_wp2_with (go_at_call 60; refine (rmix_any _ HU.out _).mono ?_; rintro e w' ⟨rfl, rfl⟩)
      go_ret
      exact ⟨rfl, rfl⟩
theorem rrow17_any (n : Int) (l : List Vl) (hl : l.length ≤ 1000) (hs : ∀ v ∈ l, v.s.size ≤ 3000) (hk : (keyRowL l).length ≤ 1000000) (A : Option Addr) (k : Nat) (w : World) (h : VlsR (PRow w) A l) :
    Gives Tryd.prog 26 #[.int .i64 n, .slice A l.length k] w (.int .u64 (textI n ⟨(keyRowL l).toArray⟩)) := by
  unfold Gives
  have HR := Lib.hid (rrowkey_any l hl hs A k w h)
  have HT := Lib.hid (fun W => rtext_any n ⟨(keyRowL l).toArray⟩ hk W)
  clear h hs
  go_enter Tryd.func26, Tryd.ntmps26
  go_wp2_with (first | (go_at_call 43; (with_reducible refine HR.out.grows.mono ?_); rintro e w3 ⟨rfl, hg3⟩; have HG3 := Lib.hid hg3; clear hg3) | (go_at_call 42; (with_reducible refine (HT.out _).mono ?_); rintro e w' ⟨rfl, hw⟩; have hw2 := hw.symm; subst hw2))
  go_ret
  exact ⟨rfl, HG3.out⟩
theorem row17_any (n : Int) (l : List Vl) (hl : l.length ≤ 1000) (hs : ∀ v ∈ l, v.s.size ≤ 3000) (hk : (keyRowL l).length ≤ 1000000) (A : Option Addr) (k : Nat) (w : World) (h : VlsR (PRow w) A l) (htab : Lib.TabIs Tryd.prog w "internal/strconv.uint64pow10" .u64 Lib.pow10Tab) :
    Gives Tryd.prog 19 #[.int .i64 n, .slice A l.length k] w (.int .u64 (textI n ⟨(keyRowL l).toArray⟩)) := by
  unfold Gives
  have HR := Lib.hid (rkeyrow_any l hl hs A k w h htab)
  have HT := Lib.hid (fun W => textH_any n ⟨(keyRowL l).toArray⟩ hk W)
  clear h hs htab
  go_enter Tryd.func19, Tryd.ntmps19
  go_wp2_with (first | (go_at_call 35; (with_reducible refine HR.out.grows.mono ?_); rintro e w3 ⟨rfl, hg3⟩; have HG3 := Lib.hid hg3; clear hg3) | (go_at_call 34; (with_reducible refine (HT.out _).mono ?_); rintro e w' ⟨rfl, hw⟩; have hw2 := hw.symm; subst hw2))
  go_ret
  exact ⟨rfl, HG3.out⟩
end Go.Proofs.YtpcbnmpfiepaeaaDoor
