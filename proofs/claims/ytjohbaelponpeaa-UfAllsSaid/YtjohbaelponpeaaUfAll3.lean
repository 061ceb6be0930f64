/- Layer 6: a class's place; what is told of no classes. No condition but that the classes lie in memory as they are made. -/
import Derived.Test.YtjohbaelponpeaaUfAll2
namespace Go.Proofs.Ytjohbaelponpeaa
open Go.RowKit
attribute [local go_sem] more_cell more_frozen more_more more_setCell more_of_drew more_of_drewN lt_more le_more past_cell past_cell2 past_frozen past_frozen2 past_setCell past_setCell2 mid_cell mid_frozen mid_setCell
attribute [local go_sem ↓] Go.wp_at_zero Go.wp_at_succ

def NumAt (p : Nat) (r : Nat → Nat) (v i : Value) (w wr : World) : Prop := ∃ j : Nat, j ≤ p ∧ i = .int .i64 j ∧ v = .int .i64 (rootsN j r : Nat) ∧ wr = w
set_option maxHeartbeats 1000000 in
theorem number_any (a x : Int) (u w : World) (g h n : Nat) (r : Nat → Nat) (s : UfS u g h n r w) (hx : numI n r a = x) :
    Calls Try.prog 69 #[.pointer (some ⟨g, 0, none⟩), .int .i64 a] w fun e w' => e = .returned (.int .i64 x) ∧ UfS u g h n r w' := by
  have S := Lib.hid s
  have hsm := s.small
  have HL := Lib.hid s.least
  by_cases h1 : 0 ≤ a ∧ a < n
  · have hF : Hid (findI n r a = (r a.toNat : Nat)) := Lib.hid (if_pos h1)
    have hX : Hid (x = (rootsN (r a.toNat) r : Nat)) := Lib.hid (by rw [← hx]; exact if_pos h1)
    have hle := HL.out.le a.toNat (by omega)
    generalize r a.toNat = p at *
    have hpn : p < n := by omega
    clear hx h1 hle s
    go_enter Try.func69, Try.ntmps69
    go_wp2_with (go_at_call 71; (with_reducible refine (uf_find a p u _ g h n r S.out hF.out).mono ?_); rintro e w3 ⟨rfl, s3, _⟩; have S3 := Lib.hid s3; clear s3)
    go_loopw [6, 14] (fun v i wr => NumAt p r v i w3 wr) (fun _ i _ => p - (intOf i).toNat)
    case atStart => exact ⟨0, Nat.zero_le _, rfl, rfl, rfl⟩
    case round =>
      obtain ⟨j, hj, rfl, rfl, hw⟩ := hrel
      have hw := hw.symm
      subst hw
      by_cases hjp : j < p
      · obtain ⟨f, hu, hl⟩ := S3.out.lies
        have c0 := hu.top.cell 0
        have c1 := hu.row.cell j
        rw [numsV_at n f j (by omega)] at c1
        have hgl := hu.top.lt
        have hrl := hu.row.lt
        simp at c0
        have hrj := rootsN_le j r
        have hjn : j < n := by omega
        have hiff : f j = j ↔ r j = j := by
          refine ⟨hl.root j hjn, fun e => ?_⟩
          have h1 := hl.le j hjn
          have h2 := hl.same j hjn
          have h3 := HL.out.le (f j) (by omega)
          omega
        have hs : rootsN (j + 1) r = rootsN j r + if r j = j then 1 else 0 := rfl
        clear hu hl
        by_cases e : f j = j
        · rw [if_pos (hiff.1 e)] at hs
          have HS := Lib.hid hs
          rw [e] at c1
          have t1 : ((j : Int) == (j : Int)) = true := by simp
          generalize rootsN j r = k at *
          clear hiff hs e
          go_wp2
          refine ⟨⟨j + 1, by omega, by go_num, by rw [HS.out]; go_num, rfl⟩, by simp only [intOf]; omega⟩
        · rw [if_neg fun e2 => e (hiff.2 e2)] at hs
          have HS := Lib.hid hs
          have t1 : ((f j : Int) == (j : Int)) = false := by rw [beq_eq_false_iff_ne]; omega
          generalize rootsN j r = k at *
          generalize f j = fj at *
          clear hiff hs e
          go_wp2
          refine ⟨⟨j + 1, by omega, by go_num, by rw [HS.out]; rfl, rfl⟩, by simp only [intOf]; omega⟩
      · obtain rfl : j = p := by omega
        go_wp2
        go_ret
        exact ⟨by rw [hX.out]; rfl, S3.out⟩
  · have hF : Hid (findI n r a = -1) := Lib.hid (if_neg h1)
    obtain rfl : x = -1 := by rw [← hx]; exact if_neg h1
    clear hx h1 s
    go_enter Try.func69, Try.ntmps69
    go_wp2_with (go_at_call 71; (with_reducible refine (uf_find a (-1) u _ g h n r S.out hF.out).mono ?_); rintro e w3 ⟨rfl, s3, _⟩; have S3 := Lib.hid s3; clear s3)
    go_ret
    exact ⟨rfl, S3.out⟩
theorem find_nil (a : Int) (w : World) : Calls Try.prog 71 #[.pointer none, .int .i64 a] w fun e w' => e = .returned (.int .i64 (-1)) ∧ w' = w := by
  go_enter Try.func71, Try.ntmps71
  go_wp2
  go_ret
  exact ⟨rfl, rfl⟩
theorem len_nil (w : World) : Calls Try.prog 72 #[.pointer none] w fun e w' => e = .returned (.int .i64 0) ∧ w' = w := by
  go_enter Try.func72, Try.ntmps72
  go_wp2
  go_ret
  exact ⟨rfl, rfl⟩
theorem count_nil (w : World) : Calls Try.prog 68 #[.pointer none] w fun e w' => e = .returned (.int .i64 0) ∧ w' = w := by
  go_enter Try.func68, Try.ntmps68
  go_wp2
  go_ret
  exact ⟨rfl, rfl⟩
theorem number_nil (a : Int) (w : World) : Calls Try.prog 69 #[.pointer none, .int .i64 a] w fun e w' => e = .returned (.int .i64 (-1)) ∧ w' = w := by
  go_enter Try.func69, Try.ntmps69
  go_wp2_with (go_at_call 71; refine (find_nil _ _).mono ?_; rintro e w' ⟨rfl, rfl⟩)
  go_ret
  exact ⟨rfl, rfl⟩
theorem join_nil (a b : Int) (w : World) : Calls Try.prog 70 #[.pointer none, .int .i64 a, .int .i64 b] w fun e w' => e = .returned (.bool false) ∧ w' = w := by
  go_enter Try.func70, Try.ntmps70
  go_wp2_with (go_at_call 71; refine (find_nil _ _).mono ?_; rintro e w' ⟨rfl, rfl⟩)
  go_ret
  exact ⟨rfl, rfl⟩
theorem same_nil (a b : Int) (w : World) : Calls Try.prog 73 #[.pointer none, .int .i64 a, .int .i64 b] w fun e w' => e = .returned (.bool false) ∧ w' = w := by
  go_enter Try.func73, Try.ntmps73
  go_wp2_with (go_at_call 71; refine (find_nil _ _).mono ?_; rintro e w' ⟨rfl, rfl⟩)
  go_ret
  exact ⟨rfl, rfl⟩
end Go.Proofs.Ytjohbaelponpeaa
