/- Layer 17: a value's number. Condition: a text of no more than 1000 bytes. -/
import Derived.Test.YtpcbnmpfiepaeaaDoorHash
import Derived.Test.YtpcbnmpfiepaeaaDoorKeyW
namespace Go.Proofs.YtpcbnmpfiepaeaaDoor
open Go.RowKit
attribute [local go_sem] more_cell more_frozen more_more more_setCell more_of_drew more_of_drewN lt_more le_more past_cell past_cell2 past_frozen past_frozen2 past_setCell past_setCell2 mid_cell mid_frozen mid_setCell
attribute [local go_sem ↓] Go.wp_at_zero Go.wp_at_succ

def bytesI (n : Int) (l : List UInt8) : Int := l.foldl (fun h b => byteI h (b.toNat : Int)) (startI n)
def textI (n : Int) (s : ByteArray) : Int := mixI (bytesI n s.data.toList)
theorem bytesI_uI (n : Int) (l : List UInt8) : uI (bytesI n l) := by
  have h : ∀ (l : List UInt8) (x : Int), uI x → uI (l.foldl (fun h b => byteI h (b.toNat : Int)) x) := by
    intro l
    induction l with
    | nil => intro x hx; exact hx
    | cons b l ih => intro x _; exact ih _ (byteI_uI _ _)
  exact h l _ (startI_uI n)
theorem bytesI_take (n : Int) (s : ByteArray) (k : Nat) (h : k < s.size) : bytesI n (s.data.toList.take (k + 1)) = byteI (bytesI n (s.data.toList.take k)) (s[k].toNat : Int) := by
  have hl : k < s.data.toList.length := by simpa using h
  rw [List.take_succ_eq_append_getElem hl]
  unfold bytesI
  rw [List.foldl_append]
  rfl
def TextAt (n : Int) (s : ByteArray) (h i : Value) : Prop := ∃ k : Nat, k ≤ s.size ∧ i = .int .i64 k ∧ h = .int .u64 (bytesI n (s.data.toList.take k))
set_option maxHeartbeats 1000000 in
theorem textH_any (n : Int) (s : ByteArray) (hs : s.size ≤ 1000000) (w : World) : Calls Tryd.prog 34 #[.int .i64 n, .string s] w fun e w' => e = .returned (.int .u64 (textI n s)) ∧ w' = w := by
  go_enter Tryd.func34, Tryd.ntmps34
  go_wp2_with (go_at_call 49; refine (start_any _ _).mono ?_; rintro e w' ⟨rfl, rfl⟩)
  go_loop [5, 11] (fun h i => TextAt n s h i) (fun _ i => s.size - (intOf i).toNat)
  case atStart => exact ⟨0, Nat.zero_le _, rfl, rfl⟩
  case round =>
    obtain ⟨k, hk, rfl, rfl⟩ := hrel
    have HU := Lib.hid (bytesI_uI n (s.data.toList.take k))
    by_cases h : k < s.size
    · have HT := Lib.hid (bytesI_take n s k h)
      have hb : s[k].toNat < 256 := s[k].toNat_lt
      generalize bytesI n (s.data.toList.take k) = x at HU HT
      go_wp2_with (go_at_call 50; refine (byte_any _ _ HU.out (by omega) (by omega) _).mono ?_; rintro e w' ⟨rfl, rfl⟩)
      case roundEnd => exact ⟨⟨k + 1, by omega, by simp, by rw [HT.out]⟩, by simp only [intOf]; omega⟩
    · obtain rfl : k = s.size := by omega
      have ht : s.data.toList.take s.size = s.data.toList := List.take_of_length_le (by simp)
      rw [ht] at HU
      rw [ht]
      go_wp2_with (go_at_call 51; refine (mix_any _ HU.out _).mono ?_; rintro e w' ⟨rfl, rfl⟩)
      go_ret
      exact ⟨rfl, rfl⟩
theorem keyT_size (k i : Int) (s : ByteArray) (h : s.size ≤ 3000) : (keyT k i s).size ≤ 100000 := by
  unfold keyT
  by_cases h0 : k = 0
  · rw [if_pos h0]; decide
  · rw [if_neg h0]
    by_cases h1 : k = 1
    · rw [if_pos h1, ByteArray.size_append]
      have : (⟨(keyBytes i).toArray⟩ : ByteArray).size = 8 := by simp [keyBytes, ByteArray.size]
      rw [this]; decide
    · rw [if_neg h1]
      by_cases h2 : k = 2
      · rw [if_pos h2, ByteArray.size_append]
        have : (⟨#[116]⟩ : ByteArray).size = 1 := rfl
        omega
      · rw [if_neg h2]; decide
end Go.Proofs.YtpcbnmpfiepaeaaDoor
