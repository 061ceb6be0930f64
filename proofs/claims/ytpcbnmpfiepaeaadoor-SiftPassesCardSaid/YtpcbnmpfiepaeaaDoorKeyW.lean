/- Layer 1: a value's key, by the program and by the document's own answer. Condition: numbers of 64 bits. -/
import Derived.Test.YtpcbnmpfiepaeaaDoorRows
import Derived.Test.YtpcbnmpfiepaeaaDoorKit3
import Derived.Laws.IdiomStrings
import Derived.Laws.BitsAllLaws
import Derived.Deep.OwnRows
import Derived.Deep.RegionHeld3
import Derived.Deep.DrawnRows
import Derived.Lib.Hide
namespace Go.Proofs.YtpcbnmpfiepaeaaDoor
open Go.RowKit
attribute [local go_sem] more_cell more_frozen more_more more_setCell more_of_drew more_of_drewN lt_more le_more past_cell past_cell2 past_frozen past_frozen2 past_setCell past_setCell2 mid_cell mid_frozen mid_setCell
attribute [local go_sem ↓] Go.wp_at_zero Go.wp_at_succ

/-- A number with its sign turned, as one of 64 bits without. -/
def keyN (n : Int) : Int := (n + 9223372036854775808) % 18446744073709551616
/-- Its byte at a place, the highest first. -/
def keyU (n : Int) (j : Nat) : UInt8 := UInt8.ofNat (keyN n / 256 ^ (7 - j) % 256).toNat
def keyBytes (n : Int) : List UInt8 := (List.range 8).map (keyU n)
theorem keyU_toNat (n : Int) (j : Nat) : ((keyU n j).toNat : Int) = keyN n / 256 ^ (7 - j) % 256 := by
  unfold keyU
  have h0 : 0 ≤ keyN n / 256 ^ (7 - j) % 256 := by omega
  have h1 : keyN n / 256 ^ (7 - j) % 256 < 256 := by omega
  simp only [UInt8.toNat_ofNat']
  omega
def eightC (n : Int) (k : Nat) : Array Value := ((List.range 8).map fun j => if j < k then Value.int .u8 ((keyU n j).toNat : Int) else .int .u8 0).toArray
def EightAt (n : Int) (w : World) (T : TypeId) (i : Value) (wr : World) : Prop := ∃ k : Nat, k ≤ 8 ∧ i = .int .i64 k ∧ wr = w.alloc (.cells (eightC n k) T)
theorem xor_top (x : Nat) (hx : x < 18446744073709551616) : x ^^^ 9223372036854775808 = (x + 9223372036854775808) % 18446744073709551616 := by
  have h63 : (9223372036854775808 : Nat) = 2 ^ 63 := rfl
  have h64 : (18446744073709551616 : Nat) = 2 ^ 64 := rfl
  rw [h64] at hx
  rw [h63, h64, Nat.add_comm]
  apply Nat.eq_of_testBit_eq
  intro i
  rw [Nat.testBit_xor, Nat.testBit_two_pow, Nat.testBit_mod_two_pow]
  rcases Nat.lt_trichotomy i 63 with h | h | h
  · rw [Nat.testBit_two_pow_add_gt h, decide_eq_false (by omega : ¬ 63 = i), decide_eq_true (by omega : i < 64)]
    simp
  · subst h
    rw [Nat.testBit_two_pow_add_eq]
    simp
  · rw [decide_eq_false (by omega : ¬ 63 = i), decide_eq_false (by omega : ¬ i < 64), Nat.testBit_lt_two_pow (Nat.lt_of_lt_of_le hx (Nat.pow_le_pow_right (by omega) (by omega)))]
    rfl
theorem key_xor (n : Int) : bits .xor .u64 (IntKind.u64.wrap n) 9223372036854775808 = keyN n := by
  have hw : IntKind.u64.wrap n = n % 18446744073709551616 := by unfold IntKind.wrap; rfl
  rw [hw, u64_xor _ _ (by omega) (by omega) (by omega) (by omega)]
  have h2 : ((9223372036854775808 : Int)).toNat = 9223372036854775808 := rfl
  rw [h2, xor_top _ (by omega)]
  unfold keyN
  omega
theorem infoByte : (Tryd.prog.info? 5).map (fun i => (i.zero, i.size, i.bytes)) = some (some (.int .u8 0), 1, 1) := by kernel_rfl
theorem eight_set (n : Int) (k : Nat) (v : Int) (hk : k < 8) (hv : v = keyN n / 256 ^ (7 - k) % 256) : (eightC n k).setIfInBounds k (.int .u8 v) = eightC n (k + 1) := by
  subst hv
  rw [← keyU_toNat]
  rcases (by omega : k = 0 ∨ k = 1 ∨ k = 2 ∨ k = 3 ∨ k = 4 ∨ k = 5 ∨ k = 6 ∨ k = 7) with rfl | rfl | rfl | rfl | rfl | rfl | rfl | rfl
  all_goals rfl
set_option maxHeartbeats 1000000 in
set_option maxRecDepth 100000 in
theorem eight_any (n : Int) (w : World) :
    Calls Tryd.prog 67 #[.int .i64 n] w fun e w' => e = .returned (.slice (some ⟨w.heap.size, 0, none⟩) 8 8) ∧ w' = w.alloc (.cells (eightC n 8) 5) := by
  obtain ⟨j0, hi0, hz0, hz1, hz2⟩ := info_parts infoByte
  have HJ := Lib.hid hi0
  have HJ0 := Lib.hid hz0
  have HJ1 := Lib.hid hz1
  have HJ2 := Lib.hid hz2
  clear hi0 hz0 hz1 hz2
  have hk := key_xor n
  have hc0 : madeCells #[Value.int .u8 0] 8 = eightC n 0 := by kernel_rfl
  go_enter Tryd.func67, Tryd.ntmps67
  go_wp2_with (at_make; refine wpList_make_row _ rfl _ _ 83 rfl 5 j0 (.int .u8 0) Tryd.underlying83 HJ.out HJ0.out HJ1.out rfl _ _ 8 rfl rfl (by rw [HJ2.out]; decide) (by decide) ?_)
  go_loopw [12] (fun i wr => EightAt n w 5 i wr) (fun i _ => 8 - (intOf i).toNat)
  case atStart => exact ⟨0, by omega, rfl, rfl⟩
  case round =>
    obtain ⟨k, hk8, rfl, rfl⟩ := hrel
    by_cases h : k < 8
    · rcases (by omega : k = 0 ∨ k = 1 ∨ k = 2 ∨ k = 3 ∨ k = 4 ∨ k = 5 ∨ k = 6 ∨ k = 7) with rfl | rfl | rfl | rfl | rfl | rfl | rfl | rfl
      all_goals
        go_wp2
        case roundEnd => exact ⟨⟨_, by decide, rfl, congrArg (fun C => w.alloc (Obj.cells C 5)) (eight_set n _ _ (by decide) (by first | rfl | exact (congrArg (· % 256) (Int.ediv_one _)).symm))⟩, by decide⟩
    · obtain rfl : k = 8 := by omega
      go_wp2
      go_ret
      exact ⟨rfl, rfl⟩
theorem eight_row (n : Int) (w : World) : Row (w.alloc (.cells (eightC n 8) 5)) (some ⟨w.heap.size, 0, none⟩) ((keyBytes n).map fun b => Value.int .u8 (b.toNat : Int)) := by
  refine Or.inr ⟨_, 0, rfl, by rw [World.size_alloc]; omega, fun j u hu => ?_⟩
  rw [World.cell?_alloc_at _ _ _ _ rfl, Nat.zero_add, ← hu]
  unfold eightC keyBytes
  rcases Nat.lt_or_ge j 8 with h | h
  · rcases (by omega : j = 0 ∨ j = 1 ∨ j = 2 ∨ j = 3 ∨ j = 4 ∨ j = 5 ∨ j = 6 ∨ j = 7) with rfl | rfl | rfl | rfl | rfl | rfl | rfl | rfl
    all_goals rfl
  · rw [Array.getElem?_eq_none (by simpa using h), List.getElem?_eq_none (by simpa using h)]
def keyT (k i : Int) (s : ByteArray) : ByteArray := if k = 0 then ⟨#[110]⟩ else if k = 1 then ⟨#[105]⟩ ++ ⟨(keyBytes i).toArray⟩ else if k = 2 then ⟨#[116]⟩ ++ s else ⟨#[]⟩
theorem conv_key (n : Int) (W : World) (B : Nat) (hB : B = W.heap.size) : (Go.convert 83 9 (.slice (some ⟨B, 0, none⟩) 8 8)).run Tryd.prog (W.alloc (.cells (eightC n 8) 5)) = .ok (.string ⟨(keyBytes n).toArray⟩) (W.alloc (.cells (eightC n 8) 5)) := by
  subst hB
  have hl : (keyBytes n).length = 8 := by simp [keyBytes]
  have h := run_convert_bytes_back (P := Tryd.prog) (W.alloc (.cells (eightC n 8) 5)) 83 9 5 ⟨W.heap.size, 0, none⟩ 8 (keyBytes n) Tryd.underlying83 Tryd.underlying5 Tryd.underlying9 (fun j hj => by
    rcases eight_row n W with h | ⟨b, o, h1, _, h2⟩
    · have : (keyBytes n).length = 0 := by simpa using congrArg List.length h
      omega
    · injection h1 with h1
      injection h1 with e1 e2 _
      rw [add_plain]
      subst e1 e2
      exact h2 j (Value.int .u8 ((keyBytes n)[j].toNat : Int)) (by rw [List.getElem?_map, List.getElem?_eq_getElem hj]; rfl))
  rw [hl] at h
  exact h
set_option maxHeartbeats 1000000 in
theorem key_any (k i : Int) (s : ByteArray) (hs : s.size ≤ 3000) (w : World) :
    Gives Tryd.prog 52 #[.agg #[.int .i64 k, .int .i64 i, .string s]] w (.string (keyT k i s)) := by
  unfold Gives
  by_cases h0 : k = 0
  · subst h0
    go_enter Tryd.func52, Tryd.ntmps52
    go_wp2
    go_ret
    exact ⟨rfl, (Grew.refl w).alloc _⟩
  · have e0 : (k == 0) = false := by simpa using h0
    by_cases h1 : k = 1
    · subst h1
      have hcv : ∀ o : Obj, (Go.convert 83 9 (.slice (some ⟨w.heap.size + 1, 0, none⟩) 8 8)).run Tryd.prog ((w.alloc o).alloc (.cells (eightC i 8) 5)) = .ok (.string ⟨(keyBytes i).toArray⟩) ((w.alloc o).alloc (.cells (eightC i 8) 5)) := fun o => conv_key i (w.alloc o) _ (by rw [World.size_alloc])
      have hz : (⟨(keyBytes i).toArray⟩ : ByteArray).size = 8 := by simp [keyBytes, ByteArray.size]
      go_enter Tryd.func52, Tryd.ntmps52
      go_wp2_with (go_at_call 67; refine (eight_any _ _).mono ?_; rintro e w' ⟨rfl, rfl⟩)
      go_ret
      exact ⟨rfl, by (show Grew _ _; repeat (first | exact Grew.refl _ | refine Grew.alloc ?_ _ | refine Grew.drew ?_ | refine Grew.more ?_ _))⟩
    · by_cases h2 : k = 2
      · subst h2
        go_enter Tryd.func52, Tryd.ntmps52
        go_wp2
        go_ret
        exact ⟨rfl, by (show Grew _ _; repeat (first | exact Grew.refl _ | refine Grew.alloc ?_ _ | refine Grew.drew ?_ | refine Grew.more ?_ _))⟩
      · go_enter Tryd.func52, Tryd.ntmps52
        go_wp2
        go_ret
        exact ⟨by unfold keyT; rw [if_neg h0, if_neg h1, if_neg h2]; rfl, (Grew.refl w).alloc _⟩
end Go.Proofs.YtpcbnmpfiepaeaaDoor
