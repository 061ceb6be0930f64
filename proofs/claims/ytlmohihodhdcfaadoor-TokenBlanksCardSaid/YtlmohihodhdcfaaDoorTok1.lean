/- Layer 7: kinds of bytes; how many bytes at the beginning of a text are such. No condition. -/
import Derived.Test.YtlmohihodhdcfaaDoorTokM
import Derived.Test.YtlmohihodhdcfaaDoorHeld
import Derived.LoopTactic
import Derived.Laws.RangeAny
import Derived.Lib.RuneCount
import Derived.Shelf.Abstract
namespace Go.Proofs.YtlmohihodhdcfaaDoor
open Go.RowKit
attribute [local go_sem] more_cell more_frozen more_more more_setCell more_of_drew more_of_drewN lt_more le_more past_cell past_cell2 past_frozen past_frozen2 past_setCell past_setCell2 mid_cell mid_frozen mid_setCell
attribute [local go_sem ↓] Go.wp_at_zero Go.wp_at_succ

theorem tdigit_any (c : UInt8) (w : World) : Calls Tryd.prog 31 #[.int .u8 (c.toNat : Int)] w fun e w' => e = .returned (.bool (digitB c)) ∧ w' = w := by
  go_enter Tryd.func31, Tryd.ntmps31
  go_wp2
  all_goals
    go_ret
    exact ⟨ret_bool (by unfold digitB; rw [Bool.eq_iff_iff]; simp; omega), rfl⟩
theorem tletter_any (c : UInt8) (w : World) : Calls Tryd.prog 29 #[.int .u8 (c.toNat : Int)] w fun e w' => e = .returned (.bool (letterB c)) ∧ w' = w := by
  go_enter Tryd.func29, Tryd.ntmps29
  go_wp2
  all_goals
    go_ret
    exact ⟨ret_bool (by unfold letterB; rw [Bool.eq_iff_iff]; simp; omega), rfl⟩
theorem tblank_any (c : UInt8) (w : World) : Calls Tryd.prog 16 #[.int .u8 (c.toNat : Int)] w fun e w' => e = .returned (.bool (blankB c)) ∧ w' = w := by
  go_enter Tryd.func16, Tryd.ntmps16
  go_wp2
  all_goals
    go_ret
    exact ⟨ret_bool (by unfold blankB; rw [Bool.eq_iff_iff]; simp; omega), rfl⟩
theorem rdigit_any (c : UInt8) (w : World) : Calls Tryd.prog 24 #[.int .u8 (c.toNat : Int)] w fun e w' => e = .returned (.bool (digitB c)) ∧ w' = w := by
  go_enter Tryd.func24, Tryd.ntmps24
  go_wp2
  all_goals
    go_ret
    exact ⟨ret_bool (by unfold digitB; rw [Bool.eq_iff_iff]; simp; omega), rfl⟩
theorem rletter_any (c : UInt8) (w : World) : Calls Tryd.prog 23 #[.int .u8 (c.toNat : Int)] w fun e w' => e = .returned (.bool (letterB c)) ∧ w' = w := by
  go_enter Tryd.func23, Tryd.ntmps23
  go_wp2
  all_goals
    go_ret
    exact ⟨ret_bool (by unfold letterB; rw [Bool.eq_iff_iff]; simp; omega), rfl⟩
theorem rblank_any (c : UInt8) (w : World) : Calls Tryd.prog 17 #[.int .u8 (c.toNat : Int)] w fun e w' => e = .returned (.bool (blankB c)) ∧ w' = w := by
  go_enter Tryd.func17, Tryd.ntmps17
  go_wp2
  all_goals
    go_ret
    exact ⟨ret_bool (by unfold blankB; rw [Bool.eq_iff_iff]; simp; omega), rfl⟩
theorem tnamed_any (c : UInt8) (w : World) : Calls Tryd.prog 35 #[.int .u8 (c.toNat : Int)] w fun e w' => e = .returned (.bool (namedB c)) ∧ w' = w := by
  cases h : letterB c
  · go_enter Tryd.func35, Tryd.ntmps35
    go_wp2_with (first | (go_at_call 31; refine (tdigit_any _ _).mono ?_; rintro e w' ⟨rfl, rfl⟩) | (go_at_call 29; refine (tletter_any _ _).mono ?_; rintro e w' ⟨rfl, rfl⟩))
    go_ret
    exact ⟨ret_bool (by unfold namedB; rw [h]; rfl), rfl⟩
  · go_enter Tryd.func35, Tryd.ntmps35
    go_wp2_with (first | (go_at_call 31; refine (tdigit_any _ _).mono ?_; rintro e w' ⟨rfl, rfl⟩) | (go_at_call 29; refine (tletter_any _ _).mono ?_; rintro e w' ⟨rfl, rfl⟩))
    go_ret
    exact ⟨ret_bool (by unfold namedB; rw [h]; rfl), rfl⟩
theorem low_blank {c : UInt8} (h : blankB c = true) : c.toNat < 128 := by unfold blankB at h; simp at h; omega
theorem low_digit {c : UInt8} (h : digitB c = true) : c.toNat < 128 := by unfold digitB at h; simp at h; omega
theorem low_letter {c : UInt8} (h : letterB c = true) : c.toNat < 128 := by unfold letterB at h; simp at h; omega
theorem low_named {c : UInt8} (h : namedB c = true) : c.toNat < 128 := by
  unfold namedB at h
  rcases Bool.or_eq_true _ _ ▸ h with h | h
  · exact low_letter h
  · exact low_digit h
def RunAt (s : ByteArray) (p : UInt8 → Bool) (w wr : World) : Prop := ∃ pos : Nat, pos ≤ s.size ∧ wr = w.iter s pos ∧ ∀ j (h : j < s.size), j < pos → p s[j] = true
theorem runP_s {s : ByteArray} {p : UInt8 → Bool} {k : Nat} (hk : k ≤ s.size) (h1 : ∀ j (h : j < s.size), j < k → p s[j] = true) (h2 : k = s.size ∨ ∃ h : k < s.size, p s[k] = false) : runP p (bl s) = k :=
  runP_at p (bl s) k (by rw [bl_len]; exact hk) (fun j h hj => by rw [bl_get (by rw [bl_len] at h; exact h) h]; exact h1 j _ hj) (by
    rcases h2 with h | ⟨h, hb⟩
    · exact Or.inl (by rw [bl_len]; exact h)
    · exact Or.inr ⟨by rw [bl_len]; exact h, by rw [bl_get h]; exact hb⟩)
set_option maxHeartbeats 1000000 in
set_option maxRecDepth 100000 in
theorem run_any (F : FuncId) (hE : ∀ args w, (callFunc F args).run Tryd.prog w = .ok (.enter F args) w) (p : UInt8 → Bool) (hF : ∀ (c : UInt8) (w : World), Calls Tryd.prog F #[.int .u8 (c.toNat : Int)] w fun e w' => e = .returned (.bool (p c)) ∧ w' = w) (hp : ∀ c : UInt8, p c = true → c.toNat < 128)
    (s : ByteArray) (w : World) : Gives Tryd.prog 21 #[.string s, .func (.func F) #[] #[]] w (.int .i64 (runP p (bl s))) := by
  have HF := Lib.hid hF
  have HP := Lib.hid hp
  have HE := Lib.hid (fun k => runP_s (s := s) (p := p) (k := k))
  obtain ⟨r, hr⟩ : ∃ r, runP p (bl s) = r := ⟨_, rfl⟩
  rw [hr] at HE ⊢
  clear hF hp hr
  unfold Gives
  go_enter Tryd.func21, Tryd.ntmps21
  go_wp2
  go_loopw [] (fun wr => RunAt s p w wr) (fun wr => s.size - wr.iterPos w.heap.size)
  case atStart => exact ⟨0, Nat.zero_le _, rfl, fun j _ hj => absurd hj (Nat.not_lt_zero _)⟩
  case round =>
    obtain ⟨pos, hpos, rfl, hk⟩ := hrel
    have HK := Lib.hid hk
    clear hk
    by_cases hlt : pos < s.size
    · by_cases ha : (s[pos]'hlt).toNat < 128
      · have hnx : ∀ ty, (Instr.next (.pointer (some ⟨w.heap.size, 0, none⟩)) true ty).run Tryd.prog (w.iter s pos) = _ := fun ty => run_next_ascii w s pos ty hlt ha
        have HN : Hid (p (s[pos]'hlt) = true → ∀ j (h : j < s.size), j < pos + 1 → p s[j] = true) := Lib.hid fun hq j h hj => by
          by_cases e : j = pos
          · subst e; exact hq
          · exact HK.out j h (by omega)
        have HR : Hid (p (s[pos]'hlt) = false → r = pos) := Lib.hid fun hq => HE.out pos hpos HK.out (Or.inr ⟨hlt, hq⟩)
        have hFc := fun W => HF.out (s[pos]'hlt) W
        clear HE HK HF HP
        generalize s[pos] = c at *
        have hge : decide ((128 : Int) ≤ (c.toNat : Int)) = false := by simp; omega
        cases hq : p c
        · obtain rfl := HR.out hq
          rw [hq] at hFc
          go_wp2_with (go_at_fn F; refine (hFc _).mono ?_; rintro e w' ⟨rfl, rfl⟩)
          go_ret
          exact ⟨rfl, (Grew.refl w).alloc _⟩
        · have HN1 := Lib.hid (HN.out hq)
          rw [hq] at hFc
          clear HN HR
          go_wp2_with (go_at_fn F; refine (hFc _).mono ?_; rintro e w' ⟨rfl, rfl⟩)
          exact ⟨⟨pos + 1, by omega, rfl, HN1.out⟩, by simp; omega⟩
      · have hnx : ∀ ty, (Instr.next (.pointer (some ⟨w.heap.size, 0, none⟩)) true ty).run Tryd.prog (w.iter s pos) = _ := fun ty => run_next_any w s pos ty hlt
        have hh := decode_high s pos hlt (by omega)
        have hrr : r = pos := HE.out pos hpos HK.out (Or.inr ⟨hlt, by
          cases hq : p (s[pos]'hlt)
          · rfl
          · exact absurd (HP.out _ hq) ha⟩)
        subst hrr
        clear HE HK HF HP ha
        generalize (Utf8.decode s r) = dd at *
        have hge : decide ((128 : Int) ≤ (dd.1 : Int)) = true := by simp; omega
        go_wp2
        go_ret
        exact ⟨rfl, (Grew.refl w).alloc _⟩
    · obtain rfl : pos = s.size := by omega
      have hnx : ∀ ty, (Instr.next (.pointer (some ⟨w.heap.size, 0, none⟩)) true ty).run Tryd.prog (w.iter s s.size) = _ := fun ty => run_next_end w s s.size ty hlt
      obtain rfl := HE.out s.size (Nat.le_refl _) HK.out (Or.inl rfl)
      clear HE HK HF HP
      go_wp2
      go_ret
      exact ⟨rfl, (Grew.refl w).alloc _⟩
theorem run_digit (s : ByteArray) (w : World) : Gives Tryd.prog 21 #[.string s, .func (.func 31) #[] #[]] w (.int .i64 (runP digitB (bl s))) :=
  run_any _ (enters_of Tryd.func31 (by kernel_rfl) rfl) _ tdigit_any (fun _ h => low_digit h) s w
theorem run_named (s : ByteArray) (w : World) : Gives Tryd.prog 21 #[.string s, .func (.func 35) #[] #[]] w (.int .i64 (runP namedB (bl s))) :=
  run_any _ (enters_of Tryd.func35 (by kernel_rfl) rfl) _ tnamed_any (fun _ h => low_named h) s w
theorem run_blank (s : ByteArray) (w : World) : Gives Tryd.prog 21 #[.string s, .func (.func 16) #[] #[]] w (.int .i64 (runP blankB (bl s))) :=
  run_any _ (enters_of Tryd.func16 (by kernel_rfl) rfl) _ tblank_any (fun _ h => low_blank h) s w
end Go.Proofs.YtlmohihodhdcfaaDoor
