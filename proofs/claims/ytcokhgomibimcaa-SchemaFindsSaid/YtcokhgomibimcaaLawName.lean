/- The law of names, of layer 5. No condition. -/
import Derived.Test.YtcokhgomibimcaaName
namespace Go.Proofs.Ytcokhgomibimcaa
open Go.RowKit
attribute [local go_sem] more_cell more_frozen more_more more_setCell more_of_drew more_of_drewN lt_more le_more past_cell past_cell2 past_frozen past_frozen2 past_setCell past_setCell2 mid_cell mid_frozen mid_setCell
attribute [local go_sem ↓] Go.wp_at_zero Go.wp_at_succ

theorem chr_letter {b : UInt8} (h : b.toNat = 95 ∨ 97 ≤ b.toNat ∧ b.toNat ≤ 122) : letterB b = true ∧ digitB b = false := by
  unfold letterB digitB
  constructor
  · simp; omega
  · simp; omega
theorem chr_digit {b : UInt8} (h : 48 ≤ b.toNat ∧ b.toNat ≤ 57) : digitB b = true := by
  unfold digitB
  simp; omega
theorem chr_none {b : UInt8} (h : b.toNat ≠ 95) (h1 : ¬ (97 ≤ b.toNat ∧ b.toNat ≤ 122)) : letterB b = false := by
  unfold letterB
  rw [Bool.eq_false_iff]
  simp; omega
theorem chr_not {b : UInt8} (h : ¬ (48 ≤ b.toNat ∧ b.toNat ≤ 57)) : digitB b = false := by
  unfold digitB
  rw [Bool.eq_false_iff]
  simp; omega
set_option maxHeartbeats 1000000 in
theorem rname_any (s : ByteArray) (w : World) : Gives Try.prog 123 #[.string s] w (.bool (nameB s)) := by
  unfold Gives
  by_cases h1 : 1 ≤ s.size ∧ s.size ≤ 32
  · obtain ⟨h1, h2⟩ := h1
    cases hw : wordB s
    · go_enter Try.func123, Try.ntmps123
      go_wp2_with (first | (go_at_call 154; refine (rword_any _ _).mono ?_; rintro e w' ⟨rfl, x, rfl⟩))
      go_loop [3] (fun i => NameAt s i) (fun i => s.size - (intOf i).toNat)
      case atStart => exact ⟨0, by omega, rfl, fun j hj => absurd hj (by omega)⟩
      case round =>
        obtain ⟨k, hk, rfl, ha⟩ := hrel
        have HA := Lib.hid ha
        clear ha
        by_cases h : k < s.size
        · have HN := Lib.hid (fun hn : (letterB s[k] || digitB s[k]) = false => nameB_no (s := s) fun hh => by have := (hh.2.2.2 k h).1; rw [hn] at this; cases this)
          have HM := Lib.hid (fun (h0 : k = 0) (hn : digitB s[k] = true) => nameB_no (s := s) fun hh => by have := (hh.2.2.2 k h).2 h0; rw [hn] at this; cases this)
          rcases (by omega : s[k].toNat < 48 ∨ (48 ≤ s[k].toNat ∧ s[k].toNat ≤ 57) ∨ (58 ≤ s[k].toNat ∧ s[k].toNat ≤ 96 ∧ s[k].toNat ≠ 95) ∨ s[k].toNat = 95 ∨ (97 ≤ s[k].toNat ∧ s[k].toNat ≤ 122) ∨ 123 ≤ s[k].toNat) with hc | hc | hc | hc | hc | hc
          · have h3 := chr_none (b := s[k]) (by omega) (by omega)
            have h4 := chr_not (b := s[k]) (by omega)
            have HD := Lib.hid (HN.out (by rw [h3, h4]; rfl))
            clear h3 h4
            have e1 : ((s[k].toNat : Int) == 95) = false := by rw [beq_eq_false_iff_ne]; omega
            have e2 : (s[k].toNat : Int) < 97 := by omega
            have e3 : (s[k].toNat : Int) ≤ 122 := by omega
            have e4 : (s[k].toNat : Int) < 48 := by omega
            have e5 : (s[k].toNat : Int) ≤ 57 := by omega
            go_wp2
            all_goals
              go_ret
              exact ⟨ret_bool HD.out.symm, by (show Grew _ _; repeat (first | exact Grew.refl _ | refine Grew.alloc ?_ _ | refine Grew.drew ?_ | refine Grew.more ?_ _))⟩
          · have hd : digitB s[k] = true := chr_digit hc
            have HD := Lib.hid hd
            clear hd
            have e1 : ((s[k].toNat : Int) == 95) = false := by rw [beq_eq_false_iff_ne]; omega
            have e2 : (s[k].toNat : Int) < 97 := by omega
            have e3 : (s[k].toNat : Int) ≤ 122 := by omega
            have e4 : 48 ≤ (s[k].toNat : Int) := by omega
            have e5 : (s[k].toNat : Int) ≤ 57 := by omega
            by_cases h0 : k = 0
            · subst h0
              go_wp2
              go_ret
              exact ⟨ret_bool (HM.out (by trivial) HD.out).symm, by (show Grew _ _; repeat (first | exact Grew.refl _ | refine Grew.alloc ?_ _ | refine Grew.drew ?_ | refine Grew.more ?_ _))⟩
            · have e6 : ((k : Int) == 0) = false := by rw [beq_eq_false_iff_ne]; omega
              go_wp2
              case roundEnd => exact ⟨⟨k + 1, by omega, by simp, name_step HA.out (fun h => absurd h h0) (by rw [HD.out, Bool.or_true])⟩, by simp only [intOf]; omega⟩
          · have h3 := chr_none (b := s[k]) (by omega) (by omega)
            have h4 := chr_not (b := s[k]) (by omega)
            have HD := Lib.hid (HN.out (by rw [h3, h4]; rfl))
            clear h3 h4
            have e1 : ((s[k].toNat : Int) == 95) = false := by rw [beq_eq_false_iff_ne]; omega
            have e2 : (s[k].toNat : Int) < 97 := by omega
            have e3 : (s[k].toNat : Int) ≤ 122 := by omega
            have e4 : 48 ≤ (s[k].toNat : Int) := by omega
            have e5 : 57 < (s[k].toNat : Int) := by omega
            go_wp2
            all_goals
              go_ret
              exact ⟨ret_bool HD.out.symm, by (show Grew _ _; repeat (first | exact Grew.refl _ | refine Grew.alloc ?_ _ | refine Grew.drew ?_ | refine Grew.more ?_ _))⟩
          · have hd := chr_letter (b := s[k]) (by omega)
            have HD := Lib.hid hd
            clear hd
            have e1 : ((s[k].toNat : Int) == 95) = true := by rw [hc]; rfl
            have e2 : (s[k].toNat : Int) < 97 := by omega
            have e3 : (s[k].toNat : Int) ≤ 122 := by omega
            have e4 : 48 ≤ (s[k].toNat : Int) := by omega
            have e5 : 57 < (s[k].toNat : Int) := by omega
            go_wp2
            case roundEnd => exact ⟨⟨k + 1, by omega, by simp, name_step HA.out (fun _ => HD.out.2) (by rw [HD.out.1]; rfl)⟩, by simp only [intOf]; omega⟩
          · have hd := chr_letter (b := s[k]) (by omega)
            have HD := Lib.hid hd
            clear hd
            have e1 : ((s[k].toNat : Int) == 95) = false := by rw [beq_eq_false_iff_ne]; omega
            have e2 : 97 ≤ (s[k].toNat : Int) := by omega
            have e3 : (s[k].toNat : Int) ≤ 122 := by omega
            have e4 : 48 ≤ (s[k].toNat : Int) := by omega
            have e5 : 57 < (s[k].toNat : Int) := by omega
            go_wp2
            case roundEnd => exact ⟨⟨k + 1, by omega, by simp, name_step HA.out (fun _ => HD.out.2) (by rw [HD.out.1]; rfl)⟩, by simp only [intOf]; omega⟩
          · have h3 := chr_none (b := s[k]) (by omega) (by omega)
            have h4 := chr_not (b := s[k]) (by omega)
            have HD := Lib.hid (HN.out (by rw [h3, h4]; rfl))
            clear h3 h4
            have e1 : ((s[k].toNat : Int) == 95) = false := by rw [beq_eq_false_iff_ne]; omega
            have e2 : 97 ≤ (s[k].toNat : Int) := by omega
            have e3 : decide ((s[k].toNat : Int) ≤ 122) = false := by rw [decide_eq_false_iff_not]; omega
            have e4 : 48 ≤ (s[k].toNat : Int) := by omega
            have e5 : 57 < (s[k].toNat : Int) := by omega
            go_wp2
            all_goals
              go_ret
              exact ⟨ret_bool HD.out.symm, by (show Grew _ _; repeat (first | exact Grew.refl _ | refine Grew.alloc ?_ _ | refine Grew.drew ?_ | refine Grew.more ?_ _))⟩
        · obtain rfl : k = s.size := by omega
          have hn : nameB s = true := (nameB_iff s).2 ⟨h1, h2, hw, fun j hj => HA.out j hj hj⟩
          have HB := Lib.hid hn
          clear hn
          go_wp2
          go_ret
          exact ⟨ret_bool HB.out.symm, by (show Grew _ _; repeat (first | exact Grew.refl _ | refine Grew.alloc ?_ _ | refine Grew.drew ?_ | refine Grew.more ?_ _))⟩
    · have hn : nameB s = false := nameB_no fun hh => by rw [hw] at hh; exact absurd hh.2.2.1 (by decide)
      have HB := Lib.hid hn
      clear hn
      go_enter Try.func123, Try.ntmps123
      go_wp2_with (first | (go_at_call 154; refine (rword_any _ _).mono ?_; rintro e w' ⟨rfl, x, rfl⟩))
      go_ret
      exact ⟨ret_bool HB.out.symm, by (show Grew _ _; repeat (first | exact Grew.refl _ | refine Grew.alloc ?_ _ | refine Grew.drew ?_ | refine Grew.more ?_ _))⟩
  · have hn : nameB s = false := nameB_no fun hh => h1 ⟨hh.1, hh.2.1⟩
    have HB := Lib.hid hn
    clear hn
    by_cases h2 : s.size < 1
    all_goals
      go_enter Try.func123, Try.ntmps123
      go_wp2_with (first | (go_at_call 154; refine (rword_any _ _).mono ?_; rintro e w' ⟨rfl, x, rfl⟩))
      go_ret
      exact ⟨ret_bool HB.out.symm, by (show Grew _ _; repeat (first | exact Grew.refl _ | refine Grew.alloc ?_ _ | refine Grew.drew ?_ | refine Grew.more ?_ _))⟩
theorem live5_any (w : World) : Gives Try.prog 54 #[] w (.bool true) := by
  unfold Gives
  have e1 : nameB ⟨#[97, 95, 49]⟩ = true := by kernel_rfl
  have e2 : nameB ⟨#[49, 97]⟩ = false := by kernel_rfl
  have e3 : nameB ⟨#[106, 111, 105, 110]⟩ = false := by kernel_rfl
  go_enter Try.func54, Try.ntmps54
  go_wp2_with (first | (go_at_call 120; refine (name_any _ _).mono ?_; rintro e w' ⟨rfl, x, rfl⟩))
  go_ret
  exact ⟨rfl, by (show Grew _ _; repeat (first | exact Grew.refl _ | refine Grew.alloc ?_ _ | refine Grew.drew ?_ | refine Grew.more ?_ _))⟩
end Go.Proofs.Ytcokhgomibimcaa
