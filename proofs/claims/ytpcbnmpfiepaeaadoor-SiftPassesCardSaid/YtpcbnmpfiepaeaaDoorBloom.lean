/- Layer 18: a number's bits in its word. Condition: as many bits as there may be. -/
import Derived.Test.YtpcbnmpfiepaeaaDoorHash
import Derived.Laws.BitsAllLaws
import Derived.Laws.ShiftsVar
import Derived.Lib.Hide
import Derived.Deep.DeepCutAuto
import Derived.Test.YtpcbnmpfiepaeaaDoorApp
import Derived.Deep.OwnRows
namespace Go.Proofs.YtpcbnmpfiepaeaaDoor
open Go.RowKit
attribute [local go_sem ↓] Go.wp_at_zero Go.wp_at_succ

/-- A number's bits in its word. -/
def maskN (h : Nat) : Nat → Nat
  | 0 => 0
  | n + 1 => maskN h n ||| (1 <<< ((h >>> (6 * n)) % 64))
theorem mask_step (h k : Nat) : ∃ s : Nat, ((h : Int) / 2 ^ (6 * k)).tmod 64 = s ∧ s < 64 ∧ maskN h (k + 1) = maskN h k ||| 2 ^ s := by
  refine ⟨(h >>> (6 * k)) % 64, ?_, Nat.mod_lt _ (by decide), ?_⟩
  · rw [Nat.shiftRight_eq_div_pow, Int.tmod_eq_emod_of_nonneg (by exact Int.ediv_nonneg (by omega) (Int.pow_nonneg (by decide)))]
    simp
  · show _ ||| (1 <<< _) = _
    rw [Nat.one_shiftLeft]
theorem maskN_lt (h n : Nat) : maskN h n < 18446744073709551616 := by
  induction n with
  | zero => show 0 < _; decide
  | succ n ih =>
    obtain ⟨s, _, h2, h3⟩ := mask_step h n
    rw [h3]
    exact Nat.or_lt_two_pow (n := 64) ih (Nat.pow_lt_pow_right (by decide) h2)
def MaskAt (h n : Nat) (m i : Value) : Prop := ∃ k : Nat, k ≤ n ∧ i = .int .i64 k ∧ m = .int .u64 (maskN h k : Nat)
set_option maxHeartbeats 400000 in
theorem mask_any (h n : Nat) (hh : h < 18446744073709551616) (hn : n ≤ 5) (w : World) : Calls Tryd.prog 39 #[.int .u64 h, .int .i64 n] w fun e w' => e = .returned (.int .u64 (maskN h n : Nat)) ∧ w' = w := by
  have HH := Lib.hid hh
  clear hh
  go_enter Tryd.func39, Tryd.ntmps39
  go_wp2
  go_loop [5, 8] (fun m i => MaskAt h n m i) (fun _ i => n - (intOf i).toNat)
  case atStart => exact ⟨0, Nat.zero_le _, rfl, rfl⟩
  case round =>
    obtain ⟨k, hk, rfl, rfl⟩ := hrel
    by_cases hlt : k < n
    · obtain ⟨s, hs, hs64, hm⟩ := mask_step h k
      have HM := Lib.hid hm
      have HML := Lib.hid (maskN_lt h k)
      clear hm
      generalize maskN h k = m at *
      have hmin : min s 64 = s := by omega
      have HOR : Hid (bits .or .u64 (m : Int) (IntKind.u64.wrap (2 ^ s)) = ((m ||| 2 ^ s : Nat) : Int)) := Lib.hid (by
        have h2 : 2 ^ s < 18446744073709551616 := (Nat.pow_lt_pow_right (by decide) hs64 : 2 ^ s < 2 ^ 64)
        have h3 : IntKind.u64.wrap (2 ^ s) = ((2 ^ s : Nat) : Int) := by
          rw [wrap_u, Int.natCast_pow]
          have : (((2 ^ s : Nat) : Int)) < 18446744073709551616 := Int.ofNat_lt.2 h2
          rw [Int.natCast_pow] at this
          exact Int.emod_eq_of_lt (Int.pow_nonneg (by decide)) this
        rw [h3, u64_or_nat _ _ HML.out h2])
      go_wp2
      exact ⟨⟨k + 1, by omega, by go_num, by rw [HM.out, HOR.out]⟩, by simp only [intOf]; omega⟩
    · obtain rfl : k = n := by omega
      go_wp2
      go_ret
      exact ⟨rfl, rfl⟩
/-- Words that lie in memory. -/
def URow (w : World) (A : Option Addr) (l : List Nat) : Prop := Row w A (l.map fun (x : Nat) => Value.int .u64 (x : Int))
theorem infoU : (Tryd.prog.info? 51).map (fun i => (i.zero, i.size, i.bytes)) = some (some (.int .u64 0), 1, 8) := by kernel_rfl
def clampN (a : Int) (hi : Nat) : Nat := if a < 1 then 1 else if (hi : Int) < a then hi else a.toNat
theorem clamp_is (a : Int) (hi : Nat) (h1 : 1 ≤ hi) : (if (if 1 < a then a else 1) < (hi : Int) then (if 1 < a then a else 1) else (hi : Int)) = (clampN a hi : Nat) := by
  unfold clampN
  (repeat' split) <;> omega
theorem clamp_le (a : Int) (hi : Nat) (h1 : 1 ≤ hi) : clampN a hi ≤ hi ∧ 1 ≤ clampN a hi := by
  unfold clampN
  (repeat' split) <;> omega
theorem made_words (n : Nat) : (madeCells #[.int .u64 0] n).toList = (List.replicate n 0).map (fun (x : Nat) => Value.int .u64 (x : Int)) := by
  rw [toList_madeCells_one]
  simp
/-- A filter is left: these words, so many bits of each number; nothing else has turned. -/
def Filt (w : World) (ws : List Nat) (k : Nat) (e : Ending) (w' : World) : Prop := ∃ g c, e = .returned (.agg #[.slice (some ⟨g, 0, none⟩) ws.length c, .int .i64 k]) ∧ Grew w w' ∧ URow w' (some ⟨g, 0, none⟩) ws
set_option maxRecDepth 400000 in
theorem bnew_any (a b : Int) (w : World) : Calls Tryd.prog 22 #[.int .i64 a, .int .i64 b] w (Filt w (List.replicate (clampN a 4096) 0) (clampN b 5)) := by
  obtain ⟨j0, hj, hj'⟩ := Option.map_eq_some_iff.1 infoU
  simp only [Prod.mk.injEq] at hj'
  obtain ⟨hj0, hj1, hj2⟩ := hj'
  have HJ := Lib.hid hj
  have HJ0 := Lib.hid hj0
  have HJ1 := Lib.hid hj1
  have HJ2 := Lib.hid hj2
  clear hj hj0 hj1 hj2
  have ha := clamp_is a 4096 (by decide)
  have hb := clamp_is b 5 (by decide)
  have hle := (clamp_le a 4096 (by decide)).1
  have HA := Lib.hid ha
  have HB := Lib.hid hb
  have hk : (b ≤ 1 ∧ clampN b 5 = 1) ∨ (5 ≤ b ∧ clampN b 5 = 5) ∨ (1 < b ∧ b < 5 ∧ (clampN b 5 : Int) = b) := by
    unfold clampN
    rcases (by omega : b ≤ 1 ∨ 5 ≤ b ∨ (1 < b ∧ b < 5)) with h | h | h
    · refine Or.inl ⟨h, ?_⟩; (repeat' split) <;> omega
    · refine Or.inr (Or.inl ⟨h, ?_⟩); (repeat' split) <;> omega
    · refine Or.inr (Or.inr ⟨h.1, h.2, ?_⟩); (repeat' split) <;> omega
  clear ha hb HB
  generalize clampN a 4096 = n at *
  generalize clampN b 5 = k at *
  have HN := Lib.hid hle
  have hn1 : (n : Int) ≤ 4096 := by omega
  clear hle
  rcases hk with ⟨h, e⟩ | ⟨h, e⟩ | ⟨h, h2, e⟩
  · have E := Lib.hid e
    clear e
    go_enter Tryd.func22, Tryd.ntmps22
    go_upto_region 2 with fail
    rw [show (if (if 1 < a then a else 1) < 4096 then if 1 < a then a else 1 else 4096) = (n : Int) from HA.out]
    go_wp2_with (at_make; refine wpList_make_row _ rfl _ _ 26 rfl 51 j0 (.int .u64 0) Tryd.underlying26 HJ.out HJ0.out HJ1.out rfl _ _ n rfl rfl (by rw [HJ2.out]; have := HN.out; omega) (by have := HN.out; omega) ?_)
    all_goals
      refine bodyPost_ret (v := .agg #[.slice (some ⟨w.heap.size + 1, 0, none⟩) n n, .int .i64 1]) (by simp [results, Tryd.results22, go_sem]) rfl ⟨w.heap.size + 1, n, by rw [E.out]; simp, ?_, ?_⟩
      · (show Grew _ _; repeat (first | exact Grew.refl _ | refine Grew.alloc ?_ _ | refine Grew.drew ?_ | refine Grew.more ?_ _))
      · unfold URow
        rw [← made_words]
        exact row_new _ _ _ _ (by simp)
  · have E := Lib.hid e
    clear e
    go_enter Tryd.func22, Tryd.ntmps22
    go_upto_region 2 with fail
    rw [show (if (if 1 < a then a else 1) < 4096 then if 1 < a then a else 1 else 4096) = (n : Int) from HA.out]
    go_wp2_with (at_make; refine wpList_make_row _ rfl _ _ 26 rfl 51 j0 (.int .u64 0) Tryd.underlying26 HJ.out HJ0.out HJ1.out rfl _ _ n rfl rfl (by rw [HJ2.out]; have := HN.out; omega) (by have := HN.out; omega) ?_)
    all_goals
      refine bodyPost_ret (v := .agg #[.slice (some ⟨w.heap.size + 1, 0, none⟩) n n, .int .i64 5]) (by simp [results, Tryd.results22, go_sem]) rfl ⟨w.heap.size + 1, n, by rw [E.out]; simp, ?_, ?_⟩
      · (show Grew _ _; repeat (first | exact Grew.refl _ | refine Grew.alloc ?_ _ | refine Grew.drew ?_ | refine Grew.more ?_ _))
      · unfold URow
        rw [← made_words]
        exact row_new _ _ _ _ (by simp)
  · have E := Lib.hid e
    clear e
    go_enter Tryd.func22, Tryd.ntmps22
    go_upto_region 2 with fail
    rw [show (if (if 1 < a then a else 1) < 4096 then if 1 < a then a else 1 else 4096) = (n : Int) from HA.out]
    go_wp2_with (at_make; refine wpList_make_row _ rfl _ _ 26 rfl 51 j0 (.int .u64 0) Tryd.underlying26 HJ.out HJ0.out HJ1.out rfl _ _ n rfl rfl (by rw [HJ2.out]; have := HN.out; omega) (by have := HN.out; omega) ?_)
    all_goals
      refine bodyPost_ret (v := .agg #[.slice (some ⟨w.heap.size + 1, 0, none⟩) n n, .int .i64 b]) (by simp [results, Tryd.results22, go_sem]) rfl ⟨w.heap.size + 1, n, by rw [E.out]; simp, ?_, ?_⟩
      · (show Grew _ _; repeat (first | exact Grew.refl _ | refine Grew.alloc ?_ _ | refine Grew.drew ?_ | refine Grew.more ?_ _))
      · unfold URow
        rw [← made_words]
        exact row_new _ _ _ _ (by simp)
end Go.Proofs.YtpcbnmpfiepaeaaDoor
