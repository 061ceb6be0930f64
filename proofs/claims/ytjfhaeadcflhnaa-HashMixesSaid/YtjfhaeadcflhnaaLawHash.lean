/- The laws of numbers, of layer 17. Conditions: numbers of 64 bits. -/
import Derived.Test.YtjfhaeadcflhnaaHash
namespace Go.Proofs.Ytjfhaeadcflhnaa
open Go.RowKit
attribute [local go_sem] more_cell more_frozen more_more more_setCell more_of_drew more_of_drewN lt_more le_more past_cell past_cell2 past_frozen past_frozen2 past_setCell past_setCell2 mid_cell mid_frozen mid_setCell
attribute [local go_sem ↓] Go.wp_at_zero Go.wp_at_succ

set_option maxHeartbeats 1000000 in
theorem hashMixes_walk (h b n k : Int) (hh : uI h) (b0 : 0 ≤ b) (b1 : b < 256) (hk : k ≤ 9223372036854775807) (w : World) :
    Gives Try.prog 3 #[.int .u64 h, .int .u8 b, .int .i64 n, .int .i64 k] w (.bool true) := by
  unfold Gives
  have h0 : 0 ≤ h := hh.1
  have h1 : h < 18446744073709551616 := hh.2
  have HH := Lib.hid hh
  have eb : IntKind.u64.wrap (bits .xor .u64 h b * 1099511628211) = byteI h b := rfl
  have es : mixI (IntKind.u64.wrap (IntKind.u64.wrap n + 2685821657736338717)) = startI n := rfl
  by_cases hk1 : k < 1
  · have ek : bucketI h k = 0 := if_pos hk1
    go_enter Try.func3, Try.ntmps3
    go_wp2_with (first | (go_at_call 16; refine (live17_any _).mono ?_; rintro e w' ⟨rfl, x, rfl⟩) | (go_at_call 11; refine (mix_any _ HH.out _).mono ?_; rintro e w' ⟨rfl, rfl⟩) | (go_at_call_of 12 (Value.int .u64 h); refine (rmix_any _ HH.out _).mono ?_; rintro e w' ⟨rfl, rfl⟩) | (go_at_call 12; refine (rmix_any _ (wrap_uI _) _).mono ?_; rintro e w' ⟨rfl, rfl⟩) | (go_at_call 10; refine (bucket_any _ _ HH.out hk _).mono ?_; rintro e w' ⟨rfl, rfl⟩) | (go_at_call 15; refine (rbucket_any _ _ HH.out _).mono ?_; rintro e w' ⟨rfl, rfl⟩) | (go_at_call 13; refine (byte_any _ _ HH.out b0 b1 _).mono ?_; rintro e w' ⟨rfl, rfl⟩) | (go_at_call 14; refine (start_any _ _).mono ?_; rintro e w' ⟨rfl, rfl⟩))
    go_ret
    exact ⟨rfl, by (show Grew _ _; repeat (first | exact Grew.refl _ | refine Grew.alloc ?_ _ | refine Grew.drew ?_ | refine Grew.more ?_ _))⟩
  · have ek : 0 ≤ bucketI h k := by rw [show bucketI h k = h / 4294967296 % k from if_neg hk1]; exact Int.emod_nonneg _ (by omega)
    have ek2 : bucketI h k < k := by rw [show bucketI h k = h / 4294967296 % k from if_neg hk1]; exact Int.emod_lt_of_pos _ (by omega)
    go_enter Try.func3, Try.ntmps3
    go_wp2_with (first | (go_at_call 16; refine (live17_any _).mono ?_; rintro e w' ⟨rfl, x, rfl⟩) | (go_at_call 11; refine (mix_any _ HH.out _).mono ?_; rintro e w' ⟨rfl, rfl⟩) | (go_at_call_of 12 (Value.int .u64 h); refine (rmix_any _ HH.out _).mono ?_; rintro e w' ⟨rfl, rfl⟩) | (go_at_call 12; refine (rmix_any _ (wrap_uI _) _).mono ?_; rintro e w' ⟨rfl, rfl⟩) | (go_at_call 10; refine (bucket_any _ _ HH.out hk _).mono ?_; rintro e w' ⟨rfl, rfl⟩) | (go_at_call 15; refine (rbucket_any _ _ HH.out _).mono ?_; rintro e w' ⟨rfl, rfl⟩) | (go_at_call 13; refine (byte_any _ _ HH.out b0 b1 _).mono ?_; rintro e w' ⟨rfl, rfl⟩) | (go_at_call 14; refine (start_any _ _).mono ?_; rintro e w' ⟨rfl, rfl⟩))
    go_ret
    exact ⟨rfl, by (show Grew _ _; repeat (first | exact Grew.refl _ | refine Grew.alloc ?_ _ | refine Grew.drew ?_ | refine Grew.more ?_ _))⟩
end Go.Proofs.Ytjfhaeadcflhnaa
