/- The law of sums of layer 3. Condition: not so many numbers that two lengths together go beyond 64 bits. -/
import Derived.Test.YthmaablodgcgkaaLawArith
import Derived.Test.YthmaablodgcgkaaKit3
namespace Go.Proofs.Ythmaablodgcgkaa
open Go.RowKit
attribute [local go_sem] more_cell more_frozen more_more more_setCell more_of_drew more_of_drewN lt_more le_more past_cell past_cell2 past_frozen past_frozen2 past_setCell past_setCell2 mid_cell mid_frozen mid_setCell
attribute [local go_sem ↓] Go.wp_at_zero Go.wp_at_succ

/-- Three sums that lie one behind the other. -/
def SumsAt (w : World) (T : TypeId) (a na b nb c nc : Int) (wr : World) : Prop :=
  ∃ x, wr = more (((w.alloc (.cells #[.int .u64 (H a), .int .u64 (L a), .int .i64 na] T)).alloc (.cells #[.int .u64 (H b), .int .u64 (L b), .int .i64 nb] T)).alloc (.cells #[.int .u64 (H c), .int .u64 (L c), .int .i64 nc] T)) x
def UpAt (w : World) (T : TypeId) (l : List Int) (i : Value) (wr : World) : Prop :=
  ∃ k : Nat, k ≤ l.length ∧ i = .int .i64 k ∧ SumsAt w T (sumL (l.take k)) k 0 0 (sumL (l.take k)) k wr
def DownAt (w : World) (T : TypeId) (l m : List Int) (i : Value) (wr : World) : Prop :=
  ∃ q : Nat, q ≤ m.length ∧ i = .int .i64 ((q : Int) - 1) ∧ SumsAt w T (sumL l) l.length (sumL m - sumL (m.take q)) (m.length - q) (sumL l + (sumL m - sumL (m.take q))) (l.length + (m.length - q)) wr
theorem sumL_append (l m : List Int) : sumL (l ++ m) = sumL l + sumL m := by
  have h : ∀ (m : List Int) (a : Int), m.foldl (· + ·) a = a + m.foldl (· + ·) 0 := by
    intro m
    induction m with
    | nil => intro a; simp
    | cons x m ih =>
      intro a
      rw [List.foldl_cons, List.foldl_cons, ih (a + x), ih (0 + x)]
      omega
  unfold sumL
  rw [List.foldl_append, h m]
theorem sumL_bound (l : List Int) (hi : ∀ z ∈ l, isI z) : -(9223372036854775808 * (l.length : Int)) ≤ sumL l ∧ sumL l ≤ 9223372036854775808 * (l.length : Int) := by
  have := sum_bound l hi l.length
  rwa [List.take_length] at this
theorem rsum_is (l : List Int) (A : Option Addr) (n c : Nat) (hn : l.length = n) (hl : n ≤ 1000000) (hi : ∀ z ∈ l, isI z) (w : World) (hr : Row w A (l.map (Value.int .i64))) :
    Gives Try.prog 57 #[.slice A n c] w (.agg #[.int .i64 (hi32 (sumL l)), .int .i64 (lo32 (sumL l))]) := by
  subst hn
  exact rsum_any l A c hl hi w hr
theorem infoInt : (Try.prog.info? 3).map (fun i => (i.zero, i.size, i.bytes)) = some (some (.int .i64 0), 1, 8) := by kernel_rfl
set_option maxHeartbeats 1000000 in
theorem arithSums_walk (l m : List Int) (A B : Option Addr) (c d : Nat) (hl : l.length ≤ 1000000000000000) (hm : m.length ≤ 1000000000000000) (il : ∀ z ∈ l, isI z) (im : ∀ z ∈ m, isI z) (w : World) (rl : Row w A (l.map (Value.int .i64))) (rm : Row w B (m.map (Value.int .i64))) :
    Gives Try.prog 11 #[.slice A l.length c, .slice B m.length d] w (.bool true) := by
  unfold Gives
  have RL := Lib.hid rl
  have RM := Lib.hid rm
  have IL := Lib.hid il
  have IM := Lib.hid im
  clear rl rm il im
  by_cases h1 : 100 < l.length + m.length
  · go_enter Try.func11, Try.ntmps11
    go_wp2_with (go_at_call 49; refine (live3_any _).mono ?_; rintro e w' ⟨rfl, x, rfl⟩)
    go_ret
    exact ⟨rfl, _, rfl⟩
  · have hl1 : l.length ≤ 100 := by omega
    have hm1 : m.length ≤ 100 := by omega
    go_enter Try.func11, Try.ntmps11
    go_wp2_with fail
    go_loopw [8] (fun i wr => UpAt w 56 l i wr) (fun i _ => l.length - (intOf i).toNat)
    case atStart => exact ⟨0, Nat.zero_le _, rfl, ⟨⟨#[], w.drawn⟩, (more_self _).symm⟩⟩
    case round =>
      obtain ⟨k, hk, rfl, x, rfl⟩ := hrel
      by_cases h : k < l.length
      · obtain ⟨b, o, rfl, hb, hc⟩ := RL.out.at_ (k := k) (by simpa using h)
        simp only [List.getElem_map] at hc
        have hb1 : b < w.heap.size + 1 := by omega
        have hb2 : b < w.heap.size + 1 + 1 := by omega
        have hb3 : b < w.heap.size + 1 + 1 + 1 := by omega
        have HI := Lib.hid (IL.out _ (List.getElem_mem h))
        have HS := Lib.hid (sumL_take l k h)
        have i0 : (0 : Int) ≤ (k : Int) := by omega
        have i1 : (k : Int) ≤ 100000 := by omega
        have i2 : (k : Int) < (l.length : Int) := by omega
        generalize l[k] = z1 at *
        generalize hS : sumL (l.take k) = S at *
        have HS0 := Lib.hid hS
        clear hS
        go_wp2
        refine wp_region_more_tail 6 (by kernel_rfl) (by kernel_rfl) ?_
        simp only [List.take_succ_cons, List.take_zero, List.drop_succ_cons, List.drop_zero]
        repeat (go_big_quiet_step (((go_at_call 53; exact (plusS_any _ _ _ HI.out (by omega) (by omega) _).inside))))
        refine wpQuiet_nil ?_
        rintro _ ⟨z, rfl⟩
        go_wp2
        refine wp_region_more_tail 6 (by kernel_rfl) (by kernel_rfl) ?_
        simp only [List.take_succ_cons, List.take_zero, List.drop_succ_cons, List.drop_zero]
        repeat (go_big_quiet_step (((go_at_call 53; exact (plusS_any _ _ _ HI.out (by omega) (by omega) _).inside))))
        refine wpQuiet_nil ?_
        rintro _ ⟨z, rfl⟩
        go_wp2
        go_roundw
        case rel => exact ⟨k + 1, by omega, by go_num, by rw [HS.out]; exact ⟨_, rfl⟩⟩
        case measure => simp [intOf]; omega
      · have hk' : k = l.length := by omega
        subst hk'
        simp only [List.take_length]
        go_wp2_with fail
        go_loopw [9] (fun i wr => DownAt w 56 l m i wr) (fun i _ => (intOf i + 1).toNat)
        case atStart => exact ⟨m.length, Nat.le_refl _, rfl, by rw [List.take_length, Int.sub_self, Int.sub_self, Int.add_zero, Int.add_zero]; exact ⟨_, rfl⟩⟩
        case round =>
          obtain ⟨q, hq, rfl, y, rfl⟩ := hrel
          rcases q with _ | r
          · rw [show ((0 : Nat) : Int) - 1 = -1 from rfl, List.take_zero, show sumL [] = 0 from rfl, Int.sub_zero, show ((0 : Nat) : Int) = 0 from rfl, Int.sub_zero]
            have bl := sumL_bound l IL.out
            have bm := sumL_bound m IM.out
            have HW1 := Lib.hid (show isW (sumL l + sumL m) by unfold isW; omega)
            clear bl bm
            obtain ⟨j0, hi0, hz0, hz1, hz2⟩ := info_parts infoInt
            have HJ := Lib.hid hi0
            have HJ0 := Lib.hid hz0
            have HJ1 := Lib.hid hz1
            have HJ2 := Lib.hid hz2
            clear hi0 hz0 hz1 hz2
            have hg0 : Grew w (((w.alloc (.cells #[.int .u64 (H (sumL l)), .int .u64 (L (sumL l)), .int .i64 l.length] 56)).alloc (.cells #[.int .u64 (H (sumL m)), .int .u64 (L (sumL m)), .int .i64 m.length] 56)).alloc (.cells #[.int .u64 (H (sumL l + sumL m)), .int .u64 (L (sumL l + sumL m)), .int .i64 (l.length + m.length)] 56)) := (((Grew.refl w).alloc _).alloc _).alloc _
            have RL3 := Lib.hid (RL.out.grew hg0)
            have RM3 := Lib.hid (RM.out.grew hg0)
            have HG0 := Lib.hid hg0
            clear hg0
            go_wp2_with fail
            refine (totalS_any _ _ HW1.out _).mono ?_
            rintro e w' ⟨rfl, x, rfl⟩
            go_wp2_with fail
            refine (joinS_any _ _ _ _ (by omega) (by omega) (by omega) (by omega) _).mono ?_
            rintro e w' ⟨rfl, x, rfl⟩
            rw [Int.add_comm (sumL m) (sumL l)]
            go_wp2_with fail
            refine (totalS_any _ _ HW1.out _).mono ?_
            rintro e w' ⟨rfl, x, rfl⟩
            have q1 : w.heap.size + 1 + 1 < (((w.alloc (.cells #[.int .u64 (H (sumL l)), .int .u64 (L (sumL l)), .int .i64 l.length] 56)).alloc (.cells #[.int .u64 (H (sumL m)), .int .u64 (L (sumL m)), .int .i64 m.length] 56)).alloc (.cells #[.int .u64 (H (sumL l + sumL m)), .int .u64 (L (sumL l + sumL m)), .int .i64 (l.length + m.length)] 56)).heap.size := by simp
            have q2 : (((w.alloc (.cells #[.int .u64 (H (sumL l)), .int .u64 (L (sumL l)), .int .i64 l.length] 56)).alloc (.cells #[.int .u64 (H (sumL m)), .int .u64 (L (sumL m)), .int .i64 m.length] 56)).alloc (.cells #[.int .u64 (H (sumL l + sumL m)), .int .u64 (L (sumL l + sumL m)), .int .i64 (l.length + m.length)] 56)).cell? ⟨w.heap.size + 1 + 1, 2, none⟩ = some (.int .i64 (l.length + m.length)) := by go_simp
            generalize (((w.alloc (.cells #[.int .u64 (H (sumL l)), .int .u64 (L (sumL l)), .int .i64 l.length] 56)).alloc (.cells #[.int .u64 (H (sumL m)), .int .u64 (L (sumL m)), .int .i64 m.length] 56)).alloc (.cells #[.int .u64 (H (sumL l + sumL m)), .int .u64 (L (sumL l + sumL m)), .int .i64 (l.length + m.length)] 56)) = V at q1 q2 RL3 RM3 HG0 ⊢
            go_wp2_with (at_builtin; refine wpList_append_row _ rfl (.tmp 73) (.tmp 74) 36 rfl V.heap.size 3 j0 (.int .i64 0) 1 8 Try.underlying36 HJ.out HJ0.out HJ1.out HJ2.out rfl (by decide) _ 0 [] rfl (own_empty _ _ _ _ _ rfl (le_more _ _ _ (Nat.le_refl _))) A l.length c (l.map (.int .i64)) rfl ?c1 ?c2 ?c3 ?c4 ?c5 ?c6 ?_)
            case c1 => simp
            case c2 => exact RL3.out.grew (((Grew.refl V).more _).alloc _)
            case c3 =>
              intro u hu
              obtain ⟨z, _, rfl⟩ := List.mem_map.1 hu
              rfl
            case c4 => unfold maxLen; omega
            case c5 => omega
            case c6 => rw [World.size_alloc, more_size]; omega
            intro A1 c1 w1 hown1 hrow1 hgb1
            have hg1 : Grew V w1 := Grew.grown (((Grew.refl V).more _).alloc _) hgb1 (fun k hk => by simp [Value.ownBlock] at hk; rw [← hk, more_size]; omega)
            obtain ⟨x1, rfl⟩ := hg1
            have HR1 := Lib.hid hrow1
            have HO1 := Lib.hid hown1
            clear hrow1 hown1 hgb1
            go_wp2_with (at_builtin; refine wpList_append_row _ rfl (.tmp 75) (.tmp 76) 36 rfl V.heap.size 3 j0 (.int .i64 0) 1 8 Try.underlying36 HJ.out HJ0.out HJ1.out HJ2.out rfl (by decide) _ _ _ rfl HO1.out B m.length d (m.map (.int .i64)) rfl ?d1 ?d2 ?d3 ?d4 ?d5 ?d6 ?_)
            case d1 => simp
            case d2 => exact RM3.out.more _
            case d3 =>
              intro u hu
              obtain ⟨z, _, rfl⟩ := List.mem_map.1 hu
              rfl
            case d4 => unfold maxLen; omega
            case d5 => omega
            case d6 => rw [more_size]; omega
            intro A2 c2 w2 hown2 hrow2 hgb2
            have hg2 : Grew V w2 := Grew.grown ((Grew.refl V).more _) hgb2 (own_base HO1.out)
            obtain ⟨x2, rfl⟩ := hg2
            rw [← List.map_append] at hrow2
            have HR2 := Lib.hid hrow2
            clear hrow2 hown2 hgb2
            go_wp2_with fail
            refine (rsum_is (l ++ m) _ _ _ (by rw [List.length_append]) (by omega) (fun z hz => (List.mem_append.1 hz).elim (IL.out z) (IM.out z)) _ HR2.out).mono ?_
            rw [sumL_append]
            rintro e w' ⟨rfl, x, rfl⟩
            go_wp2_with fail
            refine (rtotal_any _ _).mono ?_
            rintro e w' ⟨rfl, x, rfl⟩
            have z0 := errF_zero (sumL l + sumL m)
            have z5 := errF_five (sumL l + sumL m)
            generalize sumL l + sumL m = S at *
            cases hf : fits S
            all_goals
              rw [hf] at z0 z5
              go_wp2_with (first | (go_at_call 52; refine (code3_any _ _).mono ?_; rintro e w' ⟨rfl, rfl⟩) | (go_at_call 49; refine (live3_any _).mono ?_; rintro e w' ⟨rfl, x, rfl⟩))
              go_ret
              exact ⟨rfl, Grew.more HG0.out _⟩
          · rw [show ((r + 1 : Nat) : Int) - 1 = (r : Int) by omega]
            obtain ⟨b, o, rfl, hb, hc⟩ := RM.out.at_ (k := r) (by rw [List.length_map]; omega)
            simp only [List.getElem_map] at hc
            have hb1 : b < w.heap.size + 1 := by omega
            have hb2 : b < w.heap.size + 1 + 1 := by omega
            have hb3 : b < w.heap.size + 1 + 1 + 1 := by omega
            have HI := Lib.hid (IM.out _ (List.getElem_mem (show r < m.length by omega)))
            have HS := Lib.hid (sumL_take m r hq)
            have i0 : (0 : Int) ≤ (r : Int) := by omega
            have i1 : (r : Int) ≤ 100000 := by omega
            have i2 : (r : Int) < (m.length : Int) := by omega
            generalize m[r] = z1 at *
            generalize hn1 : (m.length : Int) - ((r + 1 : Nat) : Int) = n1
            generalize hn2 : (l.length : Int) + n1 = n2
            have HN1 := Lib.hid hn1
            have HN2 := Lib.hid hn2
            have b0 : 0 ≤ n1 := by omega
            have b1 : n1 ≤ 100000 := by omega
            have b2 : 0 ≤ n2 := by omega
            have b3 : n2 ≤ 100000 := by omega
            clear hn1 hn2
            generalize hS1 : sumL m - sumL (m.take (r + 1)) = S1
            generalize hS2 : sumL l + S1 = S2
            have HS1 := Lib.hid hS1
            have HS2 := Lib.hid hS2
            clear hS1 hS2
            go_wp2
            refine wp_region_more_tail 6 (by kernel_rfl) (by kernel_rfl) ?_
            simp only [List.take_succ_cons, List.take_zero, List.drop_succ_cons, List.drop_zero]
            repeat (go_big_quiet_step (((go_at_call 53; exact (plusS_any _ _ _ HI.out (by omega) (by omega) _).inside))))
            refine wpQuiet_nil ?_
            rintro _ ⟨z, rfl⟩
            go_wp2
            refine wp_region_more_tail 6 (by kernel_rfl) (by kernel_rfl) ?_
            simp only [List.take_succ_cons, List.take_zero, List.drop_succ_cons, List.drop_zero]
            repeat (go_big_quiet_step (((go_at_call 53; exact (plusS_any _ _ _ HI.out (by omega) (by omega) _).inside))))
            refine wpQuiet_nil ?_
            rintro _ ⟨z, rfl⟩
            go_wp2
            go_roundw
            case rel =>
              have e1 : S1 + z1 = sumL m - sumL (m.take r) := by have h1 := HS1.out; have h2 := HS.out; omega
              have e2 : S2 + z1 = sumL l + (sumL m - sumL (m.take r)) := by have h1 := HS1.out; have h2 := HS.out; have h3 := HS2.out; omega
              have e3 : n1 + 1 = (m.length : Int) - (r : Int) := by have h1 := HN1.out; omega
              have e4 : n2 + 1 = (l.length : Int) + ((m.length : Int) - (r : Int)) := by have h1 := HN1.out; have h2 := HN2.out; omega
              rw [e1, e2, e3, e4]
              exact ⟨r, by omega, rfl, ⟨_, rfl⟩⟩
            case measure => simp [intOf]
end Go.Proofs.Ythmaablodgcgkaa
