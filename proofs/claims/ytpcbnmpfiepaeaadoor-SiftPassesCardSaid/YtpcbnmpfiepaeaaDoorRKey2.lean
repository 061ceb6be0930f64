/- Layers 4 and 17: the document's key of a row, and its numbers. Condition: keys of no more than 100000 letters. -/
import Derived.Test.YtpcbnmpfiepaeaaDoorRKey
import Derived.Test.YtpcbnmpfiepaeaaDoorKey2W
namespace Go.Proofs.YtpcbnmpfiepaeaaDoor
open Go.RowKit
attribute [local go_sem] more_cell more_frozen more_more more_setCell more_of_drew more_of_drewN lt_more le_more past_cell past_cell2 past_frozen past_frozen2 past_setCell past_setCell2 mid_cell mid_frozen mid_setCell
attribute [local go_sem ↓] Go.wp_at_zero Go.wp_at_succ

theorem dig_one : ∀ d, d < 10 → (⟨#[48, 49, 50, 51, 52, 53, 54, 55, 56, 57]⟩ : ByteArray).extract d (d + 1) = ⟨#[UInt8.ofNat (48 + d)]⟩
  | 0, _ => by decide | 1, _ => by decide | 2, _ => by decide | 3, _ => by decide | 4, _ => by decide
  | 5, _ => by decide | 6, _ => by decide | 7, _ => by decide | 8, _ => by decide | 9, _ => by decide
  | d + 10, h => absurd h (by omega)
theorem bytes_two (a b : List UInt8) : (⟨a.toArray⟩ : ByteArray) ++ ⟨b.toArray⟩ = ⟨(a ++ b).toArray⟩ := by
  apply ByteArray.ext
  simp
theorem dec_step {m : Nat} (h : 10 ≤ m) : Lib.decDigits m = Lib.decDigits (m / 10) ++ [UInt8.ofNat (48 + m % 10)] := by
  rw [Lib.decDigits, dif_neg (by omega)]
theorem dec_len (n : Nat) (h : n ≤ 1000000) : (Lib.decDigits n).length ≤ 21 := by
  have := Lib.itoa_length_le (n : Int) (by omega) (by omega)
  rwa [Lib.itoa_nonneg] at this
def DgAt (n : Nat) (x0 x3 : Value) : Prop := ∃ (m : Nat) (acc : List UInt8), m ≤ n ∧ x0 = .int .i64 (m : Int) ∧ x3 = .string ⟨acc.toArray⟩ ∧ Lib.decDigits n = Lib.decDigits m ++ acc
set_option maxHeartbeats 2000000 in
theorem digits_any (n : Nat) (hn : n ≤ 1000000) (w : World) : Calls Tryd.prog 62 #[.int .i64 (n : Int)] w fun e w' => e = .returned (.string ⟨(Lib.decDigits n).toArray⟩) ∧ w' = w := by
  go_enter Tryd.func62, Tryd.ntmps62
  go_wp2
  go_loop [0, 3] (fun x0 x3 => DgAt n x0 x3) (fun x _ => (intOf x).toNat)
  case atStart => exact ⟨n, [], Nat.le_refl _, rfl, rfl, by simp⟩
  case round =>
    obtain ⟨m, acc, hm, rfl, rfl, hd⟩ := hrel
    have HD := Lib.hid hd
    clear hd
    by_cases h : 10 ≤ m
    · have e0 : decide ((10 : Int) ≤ (m : Int)) = true := decide_eq_true (by omega)
      obtain ⟨d, hdd⟩ : ∃ d, m % 10 = d := ⟨_, rfl⟩
      obtain ⟨q, hq⟩ : ∃ q, m / 10 = q := ⟨_, rfl⟩
      have hd10 : d < 10 := by omega
      have hal : acc.length ≤ 21 := by
        have h1 := dec_len n hn
        rw [HD.out, List.length_append] at h1
        omega
      have hres : ¬ 9223372036854775807 < min (d + 1) 10 - d + acc.length := by omega
      have HEx := Lib.hid (dig_one d hd10)
      have hqi : (m : Int) / 10 = (q : Int) := by omega
      have HDs : Hid (Lib.decDigits m = Lib.decDigits q ++ [UInt8.ofNat (48 + d)]) := Lib.hid (by rw [dec_step h, hq, hdd])
      go_wp2
      refine ⟨⟨q, UInt8.ofNat (48 + d) :: acc, by omega, by first | rfl | rw [hqi], ?_, ?_⟩, ?_⟩
      · rw [HEx.out]
        exact congrArg Value.string (bytes_two [UInt8.ofNat (48 + d)] acc)
      · rw [HD.out, HDs.out, List.append_assoc]
        rfl
      · simp only [intOf]
        omega
    · have e0 : decide ((10 : Int) ≤ (m : Int)) = false := decide_eq_false (by omega)
      have hm10 : m < 10 := by omega
      have hal : acc.length ≤ 21 := by
        have h1 := dec_len n hn
        rw [HD.out, List.length_append] at h1
        omega
      have hres : ¬ 9223372036854775807 < min (m + 1) 10 - m + acc.length := by omega
      have HEx := Lib.hid (dig_one m hm10)
      have hmi : (m : Int) < 10 := by omega
      go_wp2
      go_ret
      refine ⟨?_, rfl⟩
      rw [HD.out, Lib.decDigits_one hm10]
      show Ending.returned (Value.string (_ ++ _)) = _
      rw [HEx.out]
      exact congrArg (fun x => Ending.returned (Value.string x)) (bytes_two [UInt8.ofNat (48 + m)] acc)
end Go.Proofs.YtpcbnmpfiepaeaaDoor
