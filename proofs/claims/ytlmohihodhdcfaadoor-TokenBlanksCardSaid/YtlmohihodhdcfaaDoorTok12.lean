/- Layer 7: the page's example; the statements' walks: all tokens, one token, quoted texts. Condition: the library's table of how long a search may be holds a number. -/
import Derived.Test.YtlmohihodhdcfaaDoorTok11
namespace Go.Proofs.YtlmohihodhdcfaaDoor
open Go.RowKit
attribute [local go_sem] more_cell more_frozen more_more more_setCell more_of_drew more_of_drewN lt_more le_more past_cell past_cell2 past_frozen past_frozen2 past_setCell past_setCell2 mid_cell mid_frozen mid_setCell
attribute [local go_sem ↓] Go.wp_at_zero Go.wp_at_succ

theorem tcode_any (n : Int) (w : World) : Calls Tryd.prog 11 #[.int .i64 n] w fun e w' => e = .returned (.int .i64 n) ∧ w' = w := by
  go_enter Tryd.func11, Tryd.ntmps11
  go_wp2
  go_ret
  exact ⟨rfl, rfl⟩
def SamAt (n : Nat) (w : World) (i : Value) (wr : World) : Prop := ∃ j : Nat, j ≤ n ∧ i = .int .i64 j ∧ Grew w wr
set_option maxHeartbeats 1000000 in
set_option maxRecDepth 100000 in
theorem tsame_true (l : List Tk) (n : Nat) (hn : l.length = n) (hn1 : n ≤ 1000000) (A B : Option Addr) (k j : Nat) (w : World) (ra : Row w A (tksL l)) (rb : Row w B (tksL l)) : Gives Tryd.prog 10 #[.slice A n k, .slice B n j] w (.bool true) := by
  have RA := Lib.hid ra
  have RB := Lib.hid rb
  have HN := Lib.hid hn
  clear ra rb hn
  have e0 : ((n : Int) != (n : Int)) = false := by simp
  unfold Gives
  go_enter Tryd.func10, Tryd.ntmps10
  go_wp2
  go_loopw [5] (fun i wr => SamAt n w i wr) (fun i _ => n - (intOf i).toNat)
  case atStart => exact ⟨0, Nat.zero_le _, rfl, Grew.refl _⟩
  case round =>
    obtain ⟨i, hi, rfl, hg⟩ := hrel
    have HG := Lib.hid hg
    clear hg
    by_cases h : i < n
    · have hl : i < l.length := by rw [HN.out]; exact h
      obtain ⟨b, o, rfl, hb, c0, c1, c2, c3⟩ := tks_at (RA.out.grew HG.out) hl
      obtain ⟨b', o', rfl, hb', d0, d1, d2, d3⟩ := tks_at (RB.out.grew HG.out) hl
      generalize l[i] = x at *
      clear hl
      generalize (⟨x.t.toArray⟩ : ByteArray) = xt at *
      have f1 : (x.k == x.k) = true := by simp
      have f2 : (xt.toList == xt.toList) = true := by simp
      have f3 : (x.i == x.i) = true := by simp
      have f4 : (x.a == x.a) = true := by simp
      go_upto_region 6 with fail
      refine wp_region_more (by kernel_rfl) (by kernel_rfl) ?_
      repeat (go_big_quiet_step ((fail)))
      refine wpQuiet_nil ?_
      rintro _ ⟨z, rfl⟩
      go_wp2
      exact ⟨⟨i + 1, by omega, by go_num, HG.out.more z⟩, by simp only [intOf]; omega⟩
    · obtain rfl : i = n := by omega
      go_wp2
      go_ret
      exact ⟨rfl, HG.out⟩
def liveB : ByteArray := ⟨#[97, 46, 120, 60, 61, 49, 48]⟩
def liveT : List Tk := [⟨1, [97], 0, 0⟩, ⟨5, [46], 0, 1⟩, ⟨1, [120], 0, 2⟩, ⟨5, [60, 61], 0, 3⟩, ⟨3, [49, 48], 10, 5⟩, ⟨0, [], 0, 7⟩]
theorem live_all : allP (bl liveB) = (liveT, 0) := by kernel_rfl
set_option maxHeartbeats 1000000 in
set_option maxRecDepth 100000 in
theorem live07_any (w : World) (hw : MaxW w) : Gives Tryd.prog 7 #[] w (.bool true) := by
  have HA := all7_any liveB (by decide) w hw
  rw [live_all] at HA
  have HA1 := Lib.hid HA
  clear HA
  unfold liveB at HA1
  unfold Gives
  go_enter Tryd.func7, Tryd.ntmps7
  go_upto_region 2 with (go_at_call 8; (with_reducible refine HA1.out.mono ?_); rintro e w2 ⟨A, c, rfl, hg2, hr2⟩; have HG2 := Lib.hid hg2; have HR2 := Lib.hid hr2; clear hg2 hr2)
  obtain ⟨b, o, rfl, hb, _, c31, _, _⟩ := tks_at HR2.out (i := 3) (by decide)
  obtain ⟨b', o', hA, _, _, _, c42, _⟩ := tks_at HR2.out (i := 4) (by decide)
  injection hA with hA
  injection hA with e1 e2 _
  subst e1 e2
  have c31' : w2.cell? ⟨b, o + 3 * 4 + 1, none⟩ = some (.string ⟨#[60, 61]⟩) := c31
  have c42' : w2.cell? ⟨b, o + 4 * 4 + 2, none⟩ = some (.int .i64 10) := c42
  clear c31 c42
  have hlen : liveT.length = 6 := rfl
  go_wp2_with (go_at_call 11; (with_reducible refine (tcode_any _ _).mono ?_); rintro e w9 ⟨rfl, hw9⟩; have hw9 := hw9.symm; subst hw9)
  go_ret
  exact ⟨rfl, HG2.out⟩
set_option maxHeartbeats 1000000 in
set_option maxRecDepth 100000 in
theorem tokenAlls_walk (s : ByteArray) (w : World) (hw : MaxW w) : Gives Tryd.prog 3 #[.string s] w (.bool true) := by
  have HL : Hid (∀ W, Grew w W → Gives Tryd.prog 7 #[] W (.bool true)) := Lib.hid fun W hW => live07_any W (hw.grew hW)
  by_cases hb : 3000 < s.size
  · have hbd : decide ((3000 : Int) < (s.size : Int)) = true := by simp; omega
    have hbi : (3000 : Int) < (s.size : Int) := by omega
    unfold Gives
    clear hw hb
    go_enter Tryd.func3, Tryd.ntmps3
    go_wp2_with (go_at_call 7; (with_reducible refine (HL.out _ (Grew.refl _)).grows.mono ?_); rintro e w9 ⟨rfl, hg9⟩; have HG9 := Lib.hid hg9; clear hg9)
    go_ret
    exact ⟨rfl, HG9.out⟩
  · have hbd : decide ((3000 : Int) < (s.size : Int)) = false := by simp; omega
    have hbi : (s.size : Int) ≤ (3000 : Int) := by omega
    have H1 := Lib.hid (all7_any s (by omega) w hw)
    have H2 := Lib.hid (rall7_any s (by omega))
    have hle : (allP (bl s)).1.length ≤ 1000000 := by
      have h : ∀ (n a : Nat), (allG (bl s) n a).1.length ≤ n := fun n => by
        induction n with
        | zero => intro a; exact Nat.le_refl _
        | succ n ih =>
          intro a
          rw [allG]
          split
          · split
            · simp
            · split
              · have := ih (oneT (bl s) a).next
                simp
                omega
              · simp
          · simp
      exact Nat.le_trans (h 1000 0) (by decide)
    generalize allP (bl s) = r at *
    obtain ⟨l, er⟩ := r
    simp only at *
    have HS : Hid (∀ A B k j W, Row W A (tksL l) → Row W B (tksL l) → Gives Tryd.prog 10 #[.slice A l.length k, .slice B l.length j] W (.bool true)) := Lib.hid fun A B k j W ra rb => tsame_true l l.length rfl hle A B k j W ra rb
    unfold Gives
    clear hw hb hle
    have fe : (er == er) = true := by simp
    go_enter Tryd.func3, Tryd.ntmps3
    go_wp2_with (first
      | (go_at_call 8; (with_reducible refine H1.out.mono ?_); rintro e w1 ⟨A, k, rfl, hg1, hr1⟩; have HG1 := Lib.hid hg1; have HR1 := Lib.hid hr1; clear hg1 hr1)
      | (go_at_call 9; (with_reducible refine (H2.out _).mono ?_); rintro e w2 ⟨B, j, rfl, hg2, hr2⟩; have HG2 := Lib.hid (HG1.out.trans hg2); have HR2 := Lib.hid hr2; have HR3 := Lib.hid (HR1.out.grew hg2); clear hg2 hr2)
      | (go_at_call 10; (with_reducible refine (HS.out _ _ _ _ _ HR3.out HR2.out).grows.mono ?_); rintro e w3 ⟨rfl, hg3⟩; have HG3 := Lib.hid (HG2.out.trans hg3); clear hg3)
      | (go_at_call 11; (with_reducible refine (tcode_any _ _).mono ?_); rintro e w9 ⟨rfl, hw9⟩; have hw9 := hw9.symm; subst hw9)
      | (go_at_call 7; (with_reducible refine (HL.out _ HG3.out).grows.mono ?_); rintro e w4 ⟨rfl, hg4⟩; have HG4 := Lib.hid (HG3.out.trans hg4); clear hg4))
    go_ret
    exact ⟨rfl, HG4.out⟩
end Go.Proofs.YtlmohihodhdcfaaDoor
