/- Layer 29: how many keys may pass a filter, how many rows it drops, by the program and by the document's own answer. No condition. -/
import Derived.Test.YtlnpiemnkpogfaaPart
namespace Go.Proofs.Ytlnpiemnkpogfaa
open Go.RowKit
attribute [local go_sem] more_cell more_frozen more_more more_setCell more_of_drew more_of_drewN lt_more le_more past_cell past_cell2 past_frozen past_frozen2 past_setCell past_setCell2 mid_cell mid_frozen mid_setCell
attribute [local go_sem ↓] Go.wp_at_zero Go.wp_at_succ

/-- Of 2^16 keys, those that may pass. -/
def passN (words bits keys : Int) : Int := passOf (heldI words 1 4096) (heldI bits 1 5) (timesI (heldI bits 1 5) (cutI keys))
def gainN (rows pass : Int) : Int := cutI rows - partI (cutI rows) (cutI pass) 65536
theorem gainN_s (rows pass : Int) : 0 ≤ gainN rows pass ∧ gainN rows pass ≤ cutI rows := by
  have := partI_s (n := cutI rows) (num := cutI pass) (den := 65536) (cutI_s rows).1 (cutI_s pass).1
  unfold gainN
  omega
theorem gain_any (rows pass : Int) (w : World) : Gives Try.prog 26 #[.int .i64 rows, .int .i64 pass] w (.int .i64 (gainN rows pass)) := by
  have hx := cutI_s rows
  unfold sI at hx
  obtain ⟨x0, x1⟩ := hx
  have hp := partI_s (n := cutI rows) (num := cutI pass) (den := cutI 65536) x0 (cutI_s pass).1
  obtain ⟨p0, p1⟩ := hp
  have h5 : cutI 65536 = 65536 := by decide
  unfold Gives gainN
  rw [← h5]
  clear h5
  go_enter Try.func26, Try.ntmps26
  go_wp2_with (first | (go_at_call 15; refine (part_any _ _ _ _).mono ?_; rintro e w' ⟨rfl, x, rfl⟩) | (go_at_call 72; refine (cut_any _ _).mono ?_; rintro e w' ⟨rfl, rfl⟩))
  go_ret
  exact ⟨rfl, by (show Grew _ _; repeat (first | exact Grew.refl _ | refine Grew.alloc ?_ _ | refine Grew.drew ?_ | refine Grew.more ?_ _))⟩
theorem rgain_any (rows pass : Int) (w : World) : Calls Try.prog 27 #[.int .i64 rows, .int .i64 pass] w fun e w' => e = .returned (.int .i64 (gainN rows pass)) ∧ w' = w := by
  have hx := cutI_s rows
  unfold sI at hx
  obtain ⟨x0, x1⟩ := hx
  have hp := partI_s (n := cutI rows) (num := cutI pass) (den := cutI 65536) x0 (cutI_s pass).1
  obtain ⟨p0, p1⟩ := hp
  have h5 : cutI 65536 = 65536 := by decide
  unfold gainN
  rw [← h5]
  clear h5
  go_enter Try.func27, Try.ntmps27
  go_wp2_with (first | (go_at_call 18; refine (rpart_any _ _ _ _).mono ?_; rintro e w' ⟨rfl, rfl⟩) | (go_at_call 19; refine (rcut_any _ _).mono ?_; rintro e w' ⟨rfl, rfl⟩))
  go_ret
  exact ⟨rfl, rfl⟩
theorem heldI_minmax (n lo hi : Int) (h : lo ≤ hi) : min hi (max lo n) = heldI n lo hi := by
  unfold heldI
  (repeat' split) <;> omega
theorem foldM_two (a b : Int) (h : 0 ≤ a) (h' : a ≤ 4611686018427387904) : foldM [a, b] 1 = timesI a (cutI b) := by
  show timesI (timesI 1 (cutI a)) (cutI b) = _
  rw [cutI_self ⟨h, h'⟩]
  have : timesI 1 a = a := by unfold timesI; rw [Int.one_mul, if_neg (by omega)]
  rw [this]
theorem divI_cut {x y : Int} (h : sI x) (h' : sI y) : divI (cutI x) (cutI y) = divI x y := by rw [cutI_self h, cutI_self h']
def PassAt1 (w wr : World) (m : Nat) (u i : Value) : Prop := ∃ k : Nat, k ≤ m ∧ i = .int .i64 k ∧ u = .int .i64 (unsetI k) ∧ Grew w wr
def PassAt2 (w wr : World) (m : Nat) (x : Int) (p i : Value) : Prop := ∃ k : Nat, k ≤ m ∧ i = .int .i64 k ∧ p = .int .i64 (passI x k) ∧ Grew w wr
theorem unset_next (k : Nat) : partI (cutI (unsetI k)) (cutI 63) (cutI 64) = unsetI (k + 1) := by
  have := unsetI_s k
  rw [cutI_self (n := unsetI k) ⟨by omega, by omega⟩]
  have e1 : cutI 63 = 63 := by decide
  have e2 : cutI 64 = 64 := by decide
  rw [e1, e2]
  rfl
theorem pass_next (u : Int) (h0 : 0 ≤ u) (h : u ≤ 65536) (k : Nat) : partI (cutI (passI u k)) (cutI (65536 - u)) (cutI 65536) = passI u (k + 1) := by
  have := passI_s h k
  rw [cutI_self (n := passI u k) ⟨by omega, by omega⟩, cutI_self (n := 65536 - u) ⟨by omega, by omega⟩]
  have e1 : cutI 65536 = 65536 := by decide
  rw [e1]
  rfl
theorem sdiv_to (a b r : Int) (h : divI (cutI a) (cutI b) = r) (w : World) : Calls Try.prog 16 #[.int .i64 a, .int .i64 b] w fun e w' => e = .returned (.int .i64 r) ∧ w' = w := by
  rw [← h]
  exact sdiv_any a b w
theorem rdiv_to (a b r : Int) (h : divI (cutI a) (cutI b) = r) (w : World) : Calls Try.prog 17 #[.int .i64 a, .int .i64 b] w fun e w' => e = .returned (.int .i64 r) ∧ w' = w := by
  rw [← h]
  exact rdiv_any a b w
theorem part_to (a b c r : Int) (h : partI (cutI a) (cutI b) (cutI c) = r) (w : World) : Gives Try.prog 15 #[.int .i64 a, .int .i64 b, .int .i64 c] w (.int .i64 r) := by
  rw [← h]
  exact part_any a b c w
theorem mul_two (a b r : Int) (w : World) (A : Option Addr) (hr : Row w A [.int .i64 a, .int .i64 b]) (h : foldM [a, b] 1 = r) :
    Calls Try.prog 78 #[.slice A 2 2] w fun e w' => e = .returned (.int .i64 r) ∧ w' = w := by
  rw [← h]
  exact mul_any [a, b] A 2 (by show 2 ≤ 1000000; omega) w hr
theorem row_two (W : World) (B : Nat) (a b : Int) (hB : B = W.heap.size) : Row (W.alloc (.cells #[.int .i64 a, .int .i64 b] 3)) (some ⟨B, 0, none⟩) [.int .i64 a, .int .i64 b] := row_of W B [a, b] hB _ rfl
set_option maxHeartbeats 1000000 in
theorem pass_any (words bits keys : Int) (w : World) : Gives Try.prog 23 #[.int .i64 words, .int .i64 bits, .int .i64 keys] w (.int .i64 (passN words bits keys)) := by
  have hw := heldI_s (n := words) (low := 1) (high := 4096) (by omega)
  have hb := heldI_s (n := bits) (low := 1) (high := 5) (by omega)
  have mw := heldI_minmax words 1 4096 (by omega)
  have mb := heldI_minmax bits 1 5 (by omega)
  obtain ⟨w0, w1⟩ := hw
  obtain ⟨b0, b1⟩ := hb
  have hR : passN words bits keys = passOf (heldI words 1 4096) (heldI bits 1 5) (timesI (heldI bits 1 5) (cutI keys)) := rfl
  generalize passN words bits keys = R at *
  generalize heldI words 1 4096 = W at *
  generalize heldI bits 1 5 = B at *
  have hM := foldM_two B keys (by omega) (by omega)
  have hs : sI (timesI B (cutI keys)) := timesI_s ⟨by omega, by omega⟩ (cutI_s keys)
  have hD := divI_cut hs (y := W) ⟨by omega, by omega⟩
  have hd := divI_s (x := timesI B (cutI keys)) (y := W) hs.1 hs.2 (by omega)
  have HM := Lib.hid hM
  have HD := Lib.hid hD
  have HR := Lib.hid hR
  clear hM hD hR hs
  generalize timesI B (cutI keys) = T at *
  have hm := heldI_s (n := divI T W) (low := 0) (high := 1000) (by omega)
  have mm : min 1000 (divI T W) = heldI (divI T W) 0 1000 := by unfold heldI; (repeat' split) <;> omega
  have HR' : Hid (R = passI (unsetI (heldI (divI T W) 0 1000).toNat) B.toNat) := Lib.hid HR.out
  clear HR
  obtain ⟨d0, d1⟩ := hd
  obtain ⟨m0, m1⟩ := hm
  generalize heldI (divI T W) 0 1000 = M at *
  obtain ⟨M, rfl⟩ := Int.eq_ofNat_of_zero_le m0
  obtain ⟨B, rfl⟩ := Int.eq_ofNat_of_zero_le (by omega : 0 ≤ B)
  simp only [Int.toNat_natCast] at HR'
  unfold Gives
  go_enter Try.func23, Try.ntmps23
  go_wp2_with (first | (go_at_call 78; refine (mul_two _ _ T _ _ (row_two _ _ _ _ rfl) HM.out).mono ?_; rintro e w' ⟨rfl, rfl⟩) | (go_at_call 16; refine (sdiv_to T W _ HD.out _).mono ?_; rintro e w' ⟨rfl, rfl⟩))
  go_loopw [7, 22] (fun u i wr => PassAt1 w wr M u i) (fun _ i _ => M - (intOf i).toNat)
  case atStart => exact ⟨0, Nat.zero_le _, rfl, rfl, by (show Grew _ _; repeat (first | exact Grew.refl _ | refine Grew.alloc ?_ _ | refine Grew.drew ?_ | refine Grew.more ?_ _))⟩
  case round =>
    obtain ⟨k, hk, rfl, rfl, hg⟩ := hrel
    have HG := Lib.hid hg
    clear hg
    by_cases h : k < M
    · have hs := unsetI_s k
      obtain ⟨s0, s1⟩ := hs
      have HN := Lib.hid (unset_next k)
      generalize unsetI k = u at *
      go_wp2_with (go_at_call 15; refine (part_to _ _ _ _ HN.out _).mono ?_; rintro e w' ⟨rfl, x, rfl⟩)
      case roundEnd => exact ⟨⟨k + 1, by omega, by simp, rfl, HG.out.more _⟩, by simp only [intOf]; omega⟩
    · obtain rfl : k = M := by omega
      have hs := unsetI_s k
      obtain ⟨s0, s1⟩ := hs
      generalize unsetI k = u at *
      go_wp2
      go_loopw [8, 28] (fun p i wr => PassAt2 w wr B u p i) (fun _ i _ => B - (intOf i).toNat)
      case atStart => exact ⟨0, Nat.zero_le _, rfl, rfl, HG.out⟩
      case round =>
        obtain ⟨j, hj, rfl, rfl, hg⟩ := hrel
        have HG2 := Lib.hid hg
        clear hg
        have hs := passI_s s1 j
        obtain ⟨t0, t1⟩ := hs
        by_cases h2 : j < B
        · have HN := Lib.hid (pass_next u s0 s1 j)
          generalize passI u j = p at *
          go_wp2_with (go_at_call 15; refine (part_to _ _ _ _ HN.out _).mono ?_; rintro e w' ⟨rfl, x, rfl⟩)
          case roundEnd => exact ⟨⟨j + 1, by omega, by simp, rfl, HG2.out.more _⟩, by simp only [intOf]; omega⟩
        · obtain rfl : j = B := by omega
          go_wp2
          go_ret
          exact ⟨ret_int (by rw [HR'.out]), HG2.out⟩
theorem within_any (n lo hi : Int) (w : World) : Calls Try.prog 79 #[.int .i64 n, .int .i64 lo, .int .i64 hi] w fun e w' => e = .returned (.int .i64 (heldI n lo hi)) ∧ w' = w := by
  go_enter Try.func79, Try.ntmps79
  go_wp2
  all_goals
    go_ret
    exact ⟨ret_int (by unfold heldI; (repeat' split) <;> omega), rfl⟩
theorem within_to (n lo hi r : Int) (h : heldI n lo hi = r) (w : World) : Calls Try.prog 79 #[.int .i64 n, .int .i64 lo, .int .i64 hi] w fun e w' => e = .returned (.int .i64 r) ∧ w' = w := by
  rw [← h]
  exact within_any n lo hi w
theorem rtimes_to (a b r : Int) (h : timesI (cutI a) (cutI b) = r) (w : World) : Calls Try.prog 29 #[.int .i64 a, .int .i64 b] w fun e w' => e = .returned (.int .i64 r) ∧ w' = w := by
  rw [← h]
  exact rtimes_any a b w
theorem unset_step (k : Nat) : (unsetI k * 63 + 63) / 64 = unsetI (k + 1) := by
  show _ = partI (unsetI k) 63 64
  unfold partI
  rw [if_neg (by omega)]
  rfl
theorem pass_step (u : Int) (h0 : 0 ≤ u) (k : Nat) : (passI u k * (65536 - u) + 65535) / 65536 = passI u (k + 1) := by
  show _ = partI (passI u k) (65536 - u) 65536
  unfold partI
  split
  · obtain rfl : u = 0 := by omega
    omega
  · rfl
def RPassAt1 (m : Nat) (u i : Value) : Prop := ∃ k : Nat, k ≤ m ∧ i = .int .i64 k ∧ u = .int .i64 (unsetI k)
def RPassAt2 (m : Nat) (x : Int) (p i : Value) : Prop := ∃ k : Nat, k ≤ m ∧ i = .int .i64 k ∧ p = .int .i64 (passI x k)
set_option maxHeartbeats 1000000 in
theorem rpass_any (words bits keys : Int) (w : World) : Calls Try.prog 24 #[.int .i64 words, .int .i64 bits, .int .i64 keys] w fun e w' => e = .returned (.int .i64 (passN words bits keys)) ∧ w' = w := by
  have hw := heldI_s (n := words) (low := 1) (high := 4096) (by omega)
  have hb := heldI_s (n := bits) (low := 1) (high := 5) (by omega)
  obtain ⟨w0, w1⟩ := hw
  obtain ⟨b0, b1⟩ := hb
  have hR : passN words bits keys = passOf (heldI words 1 4096) (heldI bits 1 5) (timesI (heldI bits 1 5) (cutI keys)) := rfl
  generalize passN words bits keys = R at *
  generalize hW : heldI words 1 4096 = W at *
  generalize hB : heldI bits 1 5 = B at *
  have hM : timesI (cutI B) (cutI keys) = timesI B (cutI keys) := by rw [cutI_self (n := B) ⟨by omega, by omega⟩]
  have hs : sI (timesI B (cutI keys)) := timesI_s ⟨by omega, by omega⟩ (cutI_s keys)
  have hD := divI_cut hs (y := W) ⟨by omega, by omega⟩
  have hd := divI_s (x := timesI B (cutI keys)) (y := W) hs.1 hs.2 (by omega)
  have HM := Lib.hid hM
  have HD := Lib.hid hD
  have HR := Lib.hid hR
  have HW := Lib.hid hW
  have HB := Lib.hid hB
  clear hM hD hR hs hW hB
  generalize timesI B (cutI keys) = T at *
  have hm := heldI_s (n := divI T W) (low := 0) (high := 1000) (by omega)
  have HR' : Hid (R = passI (unsetI (heldI (divI T W) 0 1000).toNat) B.toNat) := Lib.hid HR.out
  clear HR
  obtain ⟨d0, d1⟩ := hd
  obtain ⟨m0, m1⟩ := hm
  generalize hMM : heldI (divI T W) 0 1000 = M at *
  have HMM := Lib.hid hMM
  clear hMM
  obtain ⟨M, rfl⟩ := Int.eq_ofNat_of_zero_le m0
  obtain ⟨B, rfl⟩ := Int.eq_ofNat_of_zero_le (by omega : 0 ≤ B)
  simp only [Int.toNat_natCast] at HR'
  go_enter Try.func24, Try.ntmps24
  go_wp2_with (first | (go_at_call_of 79 (Value.int .i64 words); (with_reducible refine (within_to _ _ _ _ HW.out _).mono ?_); rintro e w' ⟨rfl, rfl⟩) | (go_at_call_of 79 (Value.int .i64 bits); (with_reducible refine (within_to _ _ _ _ HB.out _).mono ?_); rintro e w' ⟨rfl, rfl⟩) | (go_at_call 29; refine (rtimes_to _ _ _ HM.out _).mono ?_; rintro e w' ⟨rfl, rfl⟩) | (go_at_call 17; refine (rdiv_to _ _ _ HD.out _).mono ?_; rintro e w' ⟨rfl, rfl⟩) | (go_at_call 79; (with_reducible refine (within_to _ _ _ _ HMM.out _).mono ?_); rintro e w' ⟨rfl, rfl⟩))
  go_loop [10, 12] (fun u i => RPassAt1 M u i) (fun _ i => M - (intOf i).toNat)
  case atStart => exact ⟨0, Nat.zero_le _, rfl, rfl⟩
  case round =>
    obtain ⟨k, hk, rfl, rfl⟩ := hrel
    have hs := unsetI_s k
    obtain ⟨s0, s1⟩ := hs
    by_cases h : k < M
    · have HN := Lib.hid (unset_step k)
      generalize unsetI k = u at *
      go_wp2
      case roundEnd => exact ⟨⟨k + 1, by omega, by simp, by rw [← HN.out]⟩, by simp only [intOf]; omega⟩
    · obtain rfl : k = M := by omega
      generalize unsetI k = u at *
      go_wp2
      go_loop [11, 13] (fun p i => RPassAt2 B u p i) (fun _ i => B - (intOf i).toNat)
      case atStart => exact ⟨0, Nat.zero_le _, rfl, rfl⟩
      case round =>
        obtain ⟨j, hj, rfl, rfl⟩ := hrel
        have hs := passI_s s1 j
        obtain ⟨t0, t1⟩ := hs
        by_cases h2 : j < B
        · have HN := Lib.hid (pass_step u s0 j)
          have hp0 : 0 ≤ passI u j * (65536 - u) := Int.mul_nonneg t0 (by omega)
          have hp1 : passI u j * (65536 - u) ≤ 65536 * 65536 := Int.mul_le_mul t1 (by omega) (by omega) (by omega)
          generalize passI u j = p at *
          go_wp2
          case roundEnd => exact ⟨⟨j + 1, by omega, by simp, by rw [← HN.out]⟩, by simp only [intOf]; omega⟩
        · obtain rfl : j = B := by omega
          go_wp2
          go_ret
          exact ⟨ret_int (by rw [HR'.out]), rfl⟩
def worthB (rows pass : Int) : Bool := decide (cutI rows < timesI 4 (gainN rows pass))
theorem worth_any (rows pass : Int) (w : World) : Gives Try.prog 28 #[.int .i64 rows, .int .i64 pass] w (.bool (worthB rows pass)) := by
  have hM := foldM_two 4 (gainN rows pass) (by omega) (by omega)
  have hg := gainN_s rows pass
  have hc := cutI_s rows
  unfold sI at hc
  rw [cutI_self (n := gainN rows pass) ⟨by omega, by omega⟩] at hM
  have HM := Lib.hid hM
  clear hM
  unfold worthB
  obtain ⟨g0, g1⟩ := hg
  obtain ⟨c0, c1⟩ := hc
  unfold Gives
  go_enter Try.func28, Try.ntmps28
  go_wp2_with (first | (go_at_call 78; refine (mul_two _ _ _ _ _ (row_two _ _ _ _ rfl) HM.out).mono ?_; rintro e w' ⟨rfl, rfl⟩) | (go_at_call 26; refine (gain_any _ _ _).mono ?_; rintro e w' ⟨rfl, x, rfl⟩) | (go_at_call 72; refine (cut_any _ _).mono ?_; rintro e w' ⟨rfl, rfl⟩))
  go_ret
  exact ⟨rfl, by (show Grew _ _; repeat (first | exact Grew.refl _ | refine Grew.alloc ?_ _ | refine Grew.drew ?_ | refine Grew.more ?_ _))⟩
theorem live29_any (w : World) : Gives Try.prog 25 #[] w (.bool true) := by
  have e1 : passN 1 1 0 = 0 := by decide +kernel
  have e2 : passN 1 1 1 = 1024 := by decide +kernel
  have e3 : gainN 100 32768 = 50 := by decide +kernel
  unfold Gives
  go_enter Try.func25, Try.ntmps25
  go_wp2_with (first | (go_at_call 23; refine (pass_any _ _ _ _).mono ?_; rintro e w' ⟨rfl, x, rfl⟩) | (go_at_call 26; refine (gain_any _ _ _).mono ?_; rintro e w' ⟨rfl, x, rfl⟩))
  go_ret
  exact ⟨rfl, by (show Grew _ _; repeat (first | exact Grew.refl _ | refine Grew.alloc ?_ _ | refine Grew.drew ?_ | refine Grew.more ?_ _))⟩
theorem passN_s (words bits keys : Int) : 0 ≤ passN words bits keys ∧ passN words bits keys ≤ 65536 := passOf_s _ _ _
theorem cutI_up {a b : Int} (h : a ≤ b) : cutI a ≤ cutI b := by unfold cutI; (repeat' split) <;> omega
theorem timesI_up {x y y' : Int} (hx : 0 ≤ x) (h : y ≤ y') : timesI x y ≤ timesI x y' := by
  have := Int.mul_le_mul_of_nonneg_left h hx
  unfold timesI
  (repeat' split) <;> omega
theorem passN_up {words bits keys more : Int} (h : keys ≤ more) : passN words bits keys ≤ passN words bits more := by
  have hw := heldI_s (n := words) (low := 1) (high := 4096) (by omega)
  have hb := heldI_s (n := bits) (low := 1) (high := 5) (by omega)
  exact passOf_up (by omega) (timesI_s (x := heldI bits 1 5) ⟨by omega, by omega⟩ (cutI_s keys)).1 (timesI_up (by omega) (cutI_up h))
theorem passN_down {words bits keys more : Int} (h : words ≤ more) : passN more bits keys ≤ passN words bits keys := by
  have hw := heldI_s (n := words) (low := 1) (high := 4096) (by omega)
  have hb := heldI_s (n := bits) (low := 1) (high := 5) (by omega)
  exact passOf_down (by omega) (timesI_s (x := heldI bits 1 5) ⟨by omega, by omega⟩ (cutI_s keys)).1 (heldI_up (by omega) h)
theorem gainN_down {rows pass more : Int} (h : pass ≤ more) : gainN rows more ≤ gainN rows pass := by
  have := partI_mono (n := cutI rows) (num := cutI pass) (num' := cutI more) (den := 65536) (cutI_s rows).1 (cutI_s pass).1 (cutI_up h) (by omega)
  unfold gainN
  omega
end Go.Proofs.Ytlnpiemnkpogfaa
