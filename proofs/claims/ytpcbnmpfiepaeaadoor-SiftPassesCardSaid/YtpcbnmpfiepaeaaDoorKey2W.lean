/- Layer 1: a value's key, by the document's own answer. Condition: numbers of 64 bits. -/
import Derived.Test.YtpcbnmpfiepaeaaDoorKeyW
import Derived.Laws.IdiomStrings
import Derived.Laws.BitsAllLaws
import Derived.Deep.OwnRows
import Derived.Deep.RegionHeld3
import Derived.Deep.DrawnRows
import Derived.Lib.Hide
namespace Go.Proofs.YtpcbnmpfiepaeaaDoor
open Go.RowKit
attribute [local go_sem] more_cell more_frozen more_more more_setCell more_of_drew more_of_drewN lt_more le_more past_cell past_cell2 past_frozen past_frozen2 past_setCell past_setCell2 mid_cell mid_frozen mid_setCell
attribute [local go_sem ↓] Go.wp_at_zero Go.wp_at_succ

theorem key_step (n : Int) (k : Nat) (hk : k < 8) : (keyBytes n).drop (8 - (k + 1)) = keyU n (7 - k) :: (keyBytes n).drop (8 - k) ∧ ((keyU n (7 - k)).toNat : Int) = keyN n / 256 ^ k % 256 := by
  refine ⟨?_, by rw [keyU_toNat, show 7 - (7 - k) = k by omega]⟩
  rcases (by omega : k = 0 ∨ k = 1 ∨ k = 2 ∨ k = 3 ∨ k = 4 ∨ k = 5 ∨ k = 6 ∨ k = 7) with rfl | rfl | rfl | rfl | rfl | rfl | rfl | rfl
  all_goals rfl
theorem key_div (n : Int) (k : Nat) : keyN n / 256 ^ k / 256 = keyN n / 256 ^ (k + 1) := by
  rw [Int.ediv_ediv_of_nonneg (Int.pow_nonneg (by omega)), Int.pow_succ]
theorem key_bounds (n : Int) (k : Nat) : 0 ≤ keyN n / 256 ^ k ∧ keyN n / 256 ^ k < 18446744073709551616 := by
  have h0 : 0 ≤ keyN n := by unfold keyN; omega
  have h1 : keyN n < 18446744073709551616 := by unfold keyN; omega
  exact ⟨Int.ediv_nonneg h0 (Int.pow_nonneg (by omega)), Int.lt_of_le_of_lt (Int.ediv_le_self _ h0) h1⟩
def byteV (b : UInt8) : Value := .int .u8 (b.toNat : Int)
def RKeyAt (n : Int) (w : World) (u b i : Value) (wr : World) : Prop :=
  ∃ (k : Nat) (A : Option Addr) (c : Nat), k ≤ 8 ∧ i = .int .i64 k ∧ u = .int .u64 (keyN n / 256 ^ k) ∧ b = .slice A k c ∧ Row wr A (((keyBytes n).drop (8 - k)).map byteV) ∧ Grew w wr
theorem conv_row (l : List UInt8) (A : Option Addr) (c : Nat) (W : World) (hr : Row W A (l.map byteV)) (hl : l ≠ []) : (Go.convert 83 9 (.slice A l.length c)).run Tryd.prog W = .ok (.string ⟨l.toArray⟩) W := by
  rcases hr with h | ⟨b, o, rfl, _, h2⟩
  · exact absurd (by simpa using h) hl
  · exact run_convert_bytes_back (P := Tryd.prog) W 83 9 5 ⟨b, o, none⟩ c l Tryd.underlying83 Tryd.underlying5 Tryd.underlying9 (fun j hj => by
      rw [add_plain]
      exact h2 j (byteV l[j]) (by rw [List.getElem?_map, List.getElem?_eq_getElem hj]; rfl))
set_option maxHeartbeats 1000000 in
set_option maxRecDepth 100000 in
theorem rkey_any (k i : Int) (s : ByteArray) (hs : s.size ≤ 3000) (w : World) :
    Gives Tryd.prog 61 #[.agg #[.int .i64 k, .int .i64 i, .string s]] w (.string (keyT k i s)) := by
  unfold Gives
  by_cases h0 : k = 0
  · subst h0
    go_enter Tryd.func61, Tryd.ntmps61
    go_wp2
    go_ret
    exact ⟨rfl, by (show Grew _ _; repeat (first | exact Grew.refl _ | refine Grew.alloc ?_ _ | refine Grew.drew ?_ | refine Grew.more ?_ _))⟩
  · by_cases h2 : k = 2
    · subst h2
      go_enter Tryd.func61, Tryd.ntmps61
      go_wp2
      go_ret
      exact ⟨rfl, by (show Grew _ _; repeat (first | exact Grew.refl _ | refine Grew.alloc ?_ _ | refine Grew.drew ?_ | refine Grew.more ?_ _))⟩
    · by_cases h1 : k = 1
      · subst h1
        obtain ⟨j0, hi0, hz0, hz1, hz2⟩ := info_parts infoByte
        have HJ := Lib.hid hi0
        have HJ0 := Lib.hid hz0
        have HJ1 := Lib.hid hz1
        have HJ2 := Lib.hid hz2
        clear hi0 hz0 hz1 hz2
        go_enter Tryd.func61, Tryd.ntmps61
        go_wp2
        go_loopw [3, 4, 5] (fun u b j wr => RKeyAt i w u b j wr) (fun _ _ j _ => 8 - (intOf j).toNat)
        case atStart =>
          refine ⟨0, none, 0, by omega, rfl, ?_, rfl, Or.inl rfl, by (show Grew _ _; repeat (first | exact Grew.refl _ | refine Grew.alloc ?_ _ | refine Grew.drew ?_ | refine Grew.more ?_ _))⟩
          have hw : ∀ z, IntKind.u64.wrap z = z % 18446744073709551616 := fun z => by unfold IntKind.wrap; rfl
          rw [hw, hw, Int.pow_zero, Int.ediv_one]
          unfold keyN
          rw [Int.emod_add_emod]
        case round =>
          obtain ⟨k, A, c, hk, rfl, rfl, rfl, hr, x, rfl⟩ := hrel
          have HR := Lib.hid hr
          clear hr
          by_cases h : k < 8
          · obtain ⟨st1, st2⟩ := key_step i k h
            have HD := Lib.hid (key_div i k)
            have HT1 := Lib.hid st1
            have HT2 := Lib.hid st2
            obtain ⟨b0, b1⟩ := key_bounds i k
            have HB := Lib.hid (key_bounds i (k + 1))
            clear st1 st2
            generalize keyN i / 256 ^ k = m at HD HT2 b0 b1 ⊢
            go_wp2_with (at_builtin; refine wpList_append_row _ rfl (.tmp 29) (.tmp 30) 83 rfl (more w x).heap.size 5 j0 (.int .u8 0) 1 1 Tryd.underlying83 HJ.out HJ0.out HJ1.out HJ2.out rfl (by decide) _ 1 [.int .u8 (m % 256)] rfl (own_one _ _ _ _ _ rfl (Nat.le_refl _)) A k c _ rfl ?d1 (row_alloc HR.out _) ?d3 ?d4 ?d5 ?d6 ?_)
            case d1 => simp [keyBytes]; omega
            case d3 =>
              intro u hu
              obtain ⟨z, _, rfl⟩ := List.mem_map.1 hu
              rfl
            case d4 => unfold maxLen; omega
            case d5 => omega
            case d6 => rw [World.size_alloc]; omega
            intro A4 c4 w2 hown2 hrow2 hgb2 hob2
            have hg2 : Grew w w2 := Grew.grown (((Grew.refl w).more _).alloc _) hgb2 (fun j hj => by simp only [Value.ownBlock, Option.some.injEq] at hj; rw [← hj, more_size]; omega)
            have HH2 := Lib.hid hrow2
            have HH4 := Lib.hid hg2
            clear hown2 hrow2 hgb2 hob2 hg2
            go_wp2
            case roundEnd =>
              refine ⟨⟨k + 1, A4, c4, by omega, by go_num, by rw [HD.out], by rw [Nat.add_comm 1 k], ?_, HH4.out⟩, by simp only [intOf]; omega⟩
              rw [HT1.out, List.map_cons]
              simpa [byteV, HT2.out] using HH2.out
          · obtain rfl : k = 8 := by omega
            have hcv := conv_row (keyBytes i) A c (more w x) (by simpa using HR.out) (by simp [keyBytes])
            have hl : (keyBytes i).length = 8 := by simp [keyBytes]
            rw [hl] at hcv
            have hz : (⟨(keyBytes i).toArray⟩ : ByteArray).size = 8 := by simp [keyBytes, ByteArray.size]
            go_wp2
            go_ret
            exact ⟨rfl, by (show Grew _ _; repeat (first | exact Grew.refl _ | refine Grew.alloc ?_ _ | refine Grew.drew ?_ | refine Grew.more ?_ _))⟩
      · go_enter Tryd.func61, Tryd.ntmps61
        go_wp2
        go_ret
        exact ⟨by unfold keyT; rw [if_neg h0, if_neg h1, if_neg h2]; rfl, by (show Grew _ _; repeat (first | exact Grew.refl _ | refine Grew.alloc ?_ _ | refine Grew.drew ?_ | refine Grew.more ?_ _))⟩
end Go.Proofs.YtpcbnmpfiepaeaaDoor
