/- The law of joins, of layer 6. Condition: pairs lie in memory that is there. -/
import Derived.Test.YthngafgblehpoaaUfMath
import Derived.Test.YthngafgblehpoaaPhase
import Derived.Deep.DeepCutAuto
namespace Go.Proofs.Ythngafgblehpoaa
open Go.RowKit
attribute [local go_sem] more_cell more_frozen more_more more_setCell more_of_drew more_of_drewN lt_more le_more past_cell past_cell2 past_frozen past_frozen2 past_setCell past_setCell2 mid_cell mid_frozen mid_setCell
attribute [local go_sem ↓] Go.wp_at_zero Go.wp_at_succ

theorem nums_cells {w : World} {b o n i p : Nat} {f : Nat → Nat} (h : Row w (some ⟨b, o, none⟩) (numsL n f)) (hi : i < n) (hp : f i = p) : b < w.heap.size ∧ w.cell? ⟨b, o + i, none⟩ = some (.int .i64 p) := by
  obtain ⟨b', o', hA, hb, c0⟩ := h.nums hi
  injection hA with hA
  injection hA with e1 e2 _
  subst e1 e2 hp
  exact ⟨hb, c0⟩
theorem nums_some {w : World} {A : Option Addr} {n i : Nat} {f : Nat → Nat} (h : Row w A (numsL n f)) (hi : i < n) : ∃ b o, A = some ⟨b, o, none⟩ := by
  obtain ⟨b, o, hA, _⟩ := h.nums hi
  exact ⟨b, o, hA⟩
theorem sameB_off {k : Nat} {R : Nat → Nat} {a b : Int} (h : ¬ (0 ≤ a ∧ a < k ∧ 0 ≤ b ∧ b < k)) : sameB k R a b = false := by
  unfold sameB findI
  by_cases h1 : 0 ≤ a ∧ a < k
  · rw [if_pos h1, if_neg (show ¬ (0 ≤ b ∧ b < k) by omega), beq_eq_false_iff_ne.2 (by omega), Bool.and_false]
  · rw [if_neg h1]
    rfl
theorem sameB_on {k : Nat} {R : Nat → Nat} {a b : Nat} (ha : a < k) (hb : b < k) : sameB k R a b = (R a == R b) := by
  unfold sameB findI
  rw [if_pos (by omega), if_pos (by omega), Int.toNat_natCast, Int.toNat_natCast, decide_eq_true (by omega), Bool.true_and, Bool.eq_iff_iff, beq_iff_eq, beq_iff_eq]
  omega
theorem findI_on {k : Nat} {R : Nat → Nat} {a : Nat} (ha : a < k) : findI k R a = (R a : Nat) := by
  unfold findI
  rw [if_pos (by omega), Int.toNat_natCast]
set_option maxHeartbeats 4000000 in
set_option maxRecDepth 100000 in
theorem ufJoins_walk (m : Int) (hm : 0 ≤ m) (hm' : m < 256) (l : List (Int × Int)) (P : Option Addr) (pd : Nat) (a b : Int) (hl : l.length ≤ maxLen) (w : World) (hp : Grid w P 2 (pairsC l)) :
    Gives Try.prog 3 #[.int .u8 m, .slice P l.length pd, .int .i64 a, .int .i64 b] w (.bool true) := by
  unfold Gives
  have HP := Lib.hid hp
  clear hp
  have hl' : (l.length : Int) ≤ 9223372036854775807 := by unfold maxLen at hl; omega
  by_cases hbig : 60 < l.length
  · go_enter Try.func3, Try.ntmps3
    go_wp2_with (first | (go_at_call 15; refine (live6_any _).mono ?_; rintro e w' ⟨rfl, x, rfl⟩))
    go_ret
    exact ⟨rfl, by (show Grew _ _; repeat (first | exact Grew.refl _ | refine Grew.alloc ?_ _ | refine Grew.drew ?_ | refine Grew.more ?_ _))⟩
  · obtain ⟨k, hk⟩ : ∃ k : Nat, (k : Int) = m % 40 := ⟨(m % 40).toNat, by omega⟩
    have HK := Lib.hid hk
    have hk40 : k < 40 := by omega
    clear hk hl
    go_enter Try.func3, Try.ntmps3
    go_wp2_with fail
    rw [show m % 40 = (k : Int) from HK.out.symm]
    refine (uf_new k (by omega) _).mono ?_
    rintro e w1 ⟨g, h, rfl, s, _⟩
    have S1 := Lib.hid s
    clear s
    go_wp2_with fail
    refine (rnew_both k _ _ g h S1.out).mono ?_
    rintro e w2 ⟨A, c, rfl, s⟩
    have S2 := Lib.hid s
    clear s S1
    go_wp2_with fail
    go_loopw [11, 12] (fun R i wr => PlayAt w g h k l R i wr) (fun _ i _ => l.length - (intOf i).toNat)
    case atStart => exact ⟨0, A, c, Nat.zero_le _, rfl, rfl, S2.out⟩
    case round =>
      obtain ⟨j, A', c', hj, rfl, rfl, s⟩ := hrel
      have hcls := s.cls.grew
      have HS := Lib.hid s
      clear s S2
      by_cases hlt : j < l.length
      · obtain ⟨pb, po, rfl⟩ := pairs_some HP.out hlt
        have HF := Lib.hid (foldR_take k l j hlt)
        have HC : Hid (∀ W, Grew w W → pb < W.heap.size ∧ W.cell? ⟨pb, po + j * 2, none⟩ = some (.int .i64 l[j].1) ∧ W.cell? ⟨pb, po + j * 2 + 1, none⟩ = some (.int .i64 l[j].2)) := Lib.hid fun W hW => pairs_cells HP.out hW hlt rfl rfl
        obtain ⟨hb, c0, c1⟩ := HC.out wr hcls
        clear hcls
        generalize l[j].1 = x at *
        generalize l[j].2 = y at *
        generalize foldR k (l.take j) = R at *
        go_wp2
        refine wp_region_more (by kernel_rfl) (by kernel_rfl) ?_
        repeat (go_big_quiet_step ((fail)))
        refine wpQuiet_nil ?_
        rintro _ ⟨z, rfl⟩
        have s2 := HS.out.on (⟨z, rfl⟩ : Grew wr (more wr z))
        have HV := Lib.hid s2
        have HOF := Lib.hid s2.off
        clear s2 HS c0 c1 hb
        generalize more wr z = V at HV
        go_upto_region 9 with fail
        go_cut [15] (fun v wx => v = .bool (decide (inB k x y)) ∧ wx = V)
        case first =>
          by_cases h1 : 0 ≤ x
          · by_cases h2 : 0 ≤ y
            · by_cases h3 : x < k
              · by_cases h4 : y < k
                · go_wp2_with fail
                  go_meet
                  case rel => exact ⟨by rw [decide_eq_true (show inB k x y from ⟨h1, h2, h3, h4⟩)], rfl⟩
                · go_wp2_with fail
                  go_meet
                  case rel => exact ⟨by rw [decide_eq_false (show ¬ inB k x y by unfold inB; omega)], rfl⟩
              · go_wp2_with fail
                go_meet
                case rel => exact ⟨by rw [decide_eq_false (show ¬ inB k x y by unfold inB; omega)], rfl⟩
            · go_wp2_with fail
              go_meet
              case rel => exact ⟨by rw [decide_eq_false (show ¬ inB k x y by unfold inB; omega)], rfl⟩
          · go_wp2_with fail
            go_meet
            case rel => exact ⟨by rw [decide_eq_false (show ¬ inB k x y by unfold inB; omega)], rfl⟩
        case rest =>
          obtain ⟨rfl, hw⟩ := hcut
          have hw := hw.symm
          subst hw
          generalize hti : decide (inB k x y) = tin
          have HTI := Lib.hid hti
          clear hti
          go_upto_region 10 with fail
          go_cut [78] (fun v wx => v = .bool false ∧ UfS w g h k (joinI k R x y) wx ∧ Row wx A' (numsL k R))
          case first =>
            cases tin
            rotate_left
            · have hi : inB k x y := of_decide_eq_true HTI.out
              have hi' := hi
              unfold inB at hi'
              obtain ⟨h1, h2, h3, h4⟩ := hi'
              obtain ⟨x', rfl⟩ := Int.eq_ofNat_of_zero_le h1
              obtain ⟨y', rfl⟩ := Int.eq_ofNat_of_zero_le h2
              have hx' : x' < k := by omega
              have hy' : y' < k := by omega
              obtain ⟨rb, ro, rfl⟩ := nums_some HV.out.row hx'
              have HX : Hid (∀ W, Row W (some ⟨rb, ro, none⟩) (numsL k R) → (rb < W.heap.size ∧ W.cell? ⟨rb, ro + x', none⟩ = some (.int .i64 (R x'))) ∧ (rb < W.heap.size ∧ W.cell? ⟨rb, ro + y', none⟩ = some (.int .i64 (R y')))) := Lib.hid fun W hW => ⟨nums_cells hW hx' rfl, nums_cells hW hy' rfl⟩
              have HJ : Hid (joinsB k R x' y' = (R x' != R y')) := Lib.hid (if_pos hi)
              clear HTI
              generalize hp' : R x' = p at *
              generalize hq' : R y' = q at *
              clear hp' hq' hi h1 h2 h3 h4
              by_cases hpq : p = q
              · subst hpq
                have t1 : ((p : Int) != (p : Int)) = false := by simp
                have t2 : ((p : Int) == (p : Int)) = true := by simp
                have HJ2 : Hid (joinsB k R x' y' = false) := Lib.hid (by rw [HJ.out]; simp)
                refine wp_region_any (by kernel_rfl) ?_
                try (change wpAny _ _ _ _ _ _ _ (World.drew _))
                refine wpAny_take (i := 0) (v := ?_) rfl (by kernel_rfl) (by kernel_rfl) (by kernel_rfl) (fun _ _ _ h => h) (Or.inl ⟨by rfl, ?_⟩) ?_
                rotate_left
                · (intro w; go_simp; with_reducible rfl)
                refine wpAny_take (i := 1) (v := ?_) rfl (by kernel_rfl) (by kernel_rfl) (by kernel_rfl) (fun _ _ _ h => h) (Or.inl ⟨by rfl, ?_⟩) ?_
                rotate_left
                · (intro w; go_simp; with_reducible rfl)
                refine wpAny_take (i := 2) (v := ?_) rfl (by kernel_rfl) (by kernel_rfl) (by kernel_rfl) (fun _ _ _ h => h) (Or.inl ⟨by rfl, ?_⟩) ?_
                rotate_left
                · (intro w; go_simp; with_reducible rfl)
                refine wpAny_take (i := 4) (v := ?_) rfl (by kernel_rfl) (by kernel_rfl) (by kernel_rfl) (fun _ _ _ h => h) (Or.inl ⟨by rfl, ?_⟩) ?_
                rotate_left
                · (intro w; go_simp; with_reducible rfl)
                refine wpAny_ready (rs := [3]) (by kernel_rfl) (by simp) ?_
                refine AllReady.cons rfl (fun K hK => ?_) AllReady.nil
                go_simp
                go_wp2_with (go_at_call 18; (with_reducible refine (uf_join x' y' w _ g h k R _ (UfS.drew HV.out.cls) false HJ2.out rfl).mono ?_); rintro e w3 ⟨rfl, s3, k3⟩; have S3 := Lib.hid s3; have r3 := Row.keep (HV.out.row.grew (Grew.refl V).drew) k3 HOF.out; have K3 := Lib.hid r3; obtain ⟨⟨_, f0⟩, ⟨_, f1⟩⟩ := HX.out w3 r3; clear s3 k3 r3)
                try (refine hK _ _ ?_; clear hK K)
                refine wpAny_rest 5 (by kernel_rfl) (by kernel_rfl) (by kernel_rfl) ?_
                simp only [List.drop_succ_cons, List.drop_zero]
                repeat (go_big_quiet_step ((fail)))
                refine wpQuiet_nil ?_
                rintro _ ⟨z, rfl⟩
                go_wp2_with fail
                go_meet
                exact ⟨rfl, S3.out.more _, K3.out.more _⟩
              · have t1 : ((p : Int) != (q : Int)) = true := by rw [bne_iff_ne]; omega
                have t2 : ((p : Int) == (q : Int)) = false := by rw [beq_eq_false_iff_ne]; omega
                have t3 : (p == q) = false := by rw [beq_eq_false_iff_ne]; exact hpq
                have HJ2 : Hid (joinsB k R x' y' = true) := Lib.hid (by rw [HJ.out]; simpa using hpq)
                clear hpq
                refine wp_region_any (by kernel_rfl) ?_
                try (change wpAny _ _ _ _ _ _ _ (World.drew _))
                refine wpAny_take (i := 0) (v := ?_) rfl (by kernel_rfl) (by kernel_rfl) (by kernel_rfl) (fun _ _ _ h => h) (Or.inl ⟨by rfl, ?_⟩) ?_
                rotate_left
                · (intro w; go_simp; with_reducible rfl)
                refine wpAny_take (i := 1) (v := ?_) rfl (by kernel_rfl) (by kernel_rfl) (by kernel_rfl) (fun _ _ _ h => h) (Or.inl ⟨by rfl, ?_⟩) ?_
                rotate_left
                · (intro w; go_simp; with_reducible rfl)
                refine wpAny_take (i := 2) (v := ?_) rfl (by kernel_rfl) (by kernel_rfl) (by kernel_rfl) (fun _ _ _ h => h) (Or.inl ⟨by rfl, ?_⟩) ?_
                rotate_left
                · (intro w; go_simp; with_reducible rfl)
                refine wpAny_take (i := 4) (v := ?_) rfl (by kernel_rfl) (by kernel_rfl) (by kernel_rfl) (fun _ _ _ h => h) (Or.inl ⟨by rfl, ?_⟩) ?_
                rotate_left
                · (intro w; go_simp; with_reducible rfl)
                refine wpAny_ready (rs := [3]) (by kernel_rfl) (by simp) ?_
                refine AllReady.cons rfl (fun K hK => ?_) AllReady.nil
                go_simp
                go_wp2_with (go_at_call 18; (with_reducible refine (uf_join x' y' w _ g h k R _ (UfS.drew HV.out.cls) true HJ2.out rfl).mono ?_); rintro e w3 ⟨rfl, s3, k3⟩; have S3 := Lib.hid s3; have r3 := Row.keep (HV.out.row.grew (Grew.refl V).drew) k3 HOF.out; have K3 := Lib.hid r3; obtain ⟨⟨_, f0⟩, ⟨_, f1⟩⟩ := HX.out w3 r3; clear s3 k3 r3)
                try (refine hK _ _ ?_; clear hK K)
                refine wpAny_rest 5 (by kernel_rfl) (by kernel_rfl) (by kernel_rfl) ?_
                simp only [List.drop_succ_cons, List.drop_zero]
                repeat (go_big_quiet_step ((fail)))
                refine wpQuiet_nil ?_
                rintro _ ⟨z, rfl⟩
                go_wp2_with fail
                go_meet
                exact ⟨rfl, S3.out.more _, K3.out.more _⟩
            · have hi : ¬ inB k x y := of_decide_eq_false HTI.out
              have HJ2 : Hid (joinsB k R x y = false) := Lib.hid (if_neg hi)
              clear hi
              refine wp_region_any (by kernel_rfl) ?_
              try (change wpAny _ _ _ _ _ _ _ (World.drew _))
              refine wpAny_take (i := 0) (v := ?_) rfl (by kernel_rfl) (by kernel_rfl) (by kernel_rfl) (fun _ _ _ h => h) (Or.inl ⟨by rfl, ?_⟩) ?_
              rotate_left
              · (intro w; go_simp; with_reducible rfl)
              refine wpAny_take (i := 1) (v := ?_) rfl (by kernel_rfl) (by kernel_rfl) (by kernel_rfl) (fun _ _ _ h => h) (Or.inl ⟨by rfl, ?_⟩) ?_
              rotate_left
              · (intro w; go_simp; with_reducible rfl)
              refine wpAny_take (i := 2) (v := ?_) rfl (by kernel_rfl) (by kernel_rfl) (by kernel_rfl) (fun _ _ _ h => h) (Or.inl ⟨by rfl, ?_⟩) ?_
              rotate_left
              · (intro w; go_simp; with_reducible rfl)
              refine wpAny_take (i := 4) (v := ?_) rfl (by kernel_rfl) (by kernel_rfl) (by kernel_rfl) (fun _ _ _ h => h) (Or.inl ⟨by rfl, ?_⟩) ?_
              rotate_left
              · (intro w; go_simp; with_reducible rfl)
              refine wpAny_ready (rs := [3]) (by kernel_rfl) (by simp) ?_
              refine AllReady.cons rfl (fun K hK => ?_) AllReady.nil
              go_simp
              go_wp2_with (go_at_call 18; (with_reducible refine (uf_join x y w _ g h k R _ (UfS.drew HV.out.cls) false HJ2.out rfl).mono ?_); rintro e w3 ⟨rfl, s3, k3⟩; have S3 := Lib.hid s3; have r3 := Row.keep (HV.out.row.grew (Grew.refl V).drew) k3 HOF.out; have K3 := Lib.hid r3; clear s3 k3 r3)
              try (refine hK _ _ ?_; clear hK K)
              refine wpAny_rest 5 (by kernel_rfl) (by kernel_rfl) (by kernel_rfl) ?_
              simp only [List.drop_succ_cons, List.drop_zero]
              repeat (go_big_quiet_step ((fail)))
              refine wpQuiet_nil ?_
              rintro _ ⟨z, rfl⟩
              go_wp2_with fail
              go_meet
              exact ⟨rfl, S3.out.more _, K3.out.more _⟩
          case rest =>
            obtain ⟨rfl, s3, r3⟩ := hcut
            have S3 := Lib.hid s3
            have K3 := Lib.hid r3
            clear s3 r3
            go_wp2_with (go_at_call 19; (with_reducible refine (rjoin_both x y _ w _ g h k _ _ _ S3.out K3.out HOF.out rfl).mono ?_); rintro e w4 ⟨A4, c4, rfl, s4⟩; have S4 := Lib.hid s4; clear s4)
            refine ⟨⟨j + 1, A4, c4, by omega, by go_num, rfl, by rw [HF.out]; exact S4.out⟩, by simp only [intOf]; omega⟩
      · obtain rfl : j = l.length := by omega
        rw [List.take_length] at HS
        generalize foldR k l = R at *
        have HV := HS
        have HOF := Lib.hid HS.out.off
        clear HS
        go_upto_region 13 with fail
        go_cut [16, 17] (fun v u wx => v = .bool (decide (0 ≤ a ∧ a < k)) ∧ u = .bool (decide (0 ≤ b ∧ b < k)) ∧ wx = wr)
        case first =>
          by_cases ha1 : 0 ≤ a
          · by_cases ha2 : a < k
            · skip
              by_cases hb1 : 0 ≤ b
              · by_cases hb2 : b < k
                · skip
                  go_wp2_with fail
                  go_meet
                  case rel => exact ⟨by rw [decide_eq_true (by omega)], by rw [decide_eq_true (by omega)], rfl⟩
                · skip
                  go_wp2_with fail
                  go_meet
                  case rel => exact ⟨by rw [decide_eq_true (by omega)], by rw [decide_eq_false (by omega)], rfl⟩
              · skip
                go_wp2_with fail
                go_meet
                case rel => exact ⟨by rw [decide_eq_true (by omega)], by rw [decide_eq_false (by omega)], rfl⟩
            · skip
              by_cases hb1 : 0 ≤ b
              · by_cases hb2 : b < k
                · skip
                  go_wp2_with fail
                  go_meet
                  case rel => exact ⟨by rw [decide_eq_false (by omega)], by rw [decide_eq_true (by omega)], rfl⟩
                · skip
                  go_wp2_with fail
                  go_meet
                  case rel => exact ⟨by rw [decide_eq_false (by omega)], by rw [decide_eq_false (by omega)], rfl⟩
              · skip
                go_wp2_with fail
                go_meet
                case rel => exact ⟨by rw [decide_eq_false (by omega)], by rw [decide_eq_false (by omega)], rfl⟩
          · skip
            by_cases hb1 : 0 ≤ b
            · by_cases hb2 : b < k
              · skip
                go_wp2_with fail
                go_meet
                case rel => exact ⟨by rw [decide_eq_false (by omega)], by rw [decide_eq_true (by omega)], rfl⟩
              · skip
                go_wp2_with fail
                go_meet
                case rel => exact ⟨by rw [decide_eq_false (by omega)], by rw [decide_eq_false (by omega)], rfl⟩
            · skip
              go_wp2_with fail
              go_meet
              case rel => exact ⟨by rw [decide_eq_false (by omega)], by rw [decide_eq_false (by omega)], rfl⟩
        case rest =>
          obtain ⟨rfl, rfl, hw⟩ := hcut
          have hw := hw.symm
          subst hw
          generalize hti : decide (0 ≤ a ∧ a < k) = tin
          generalize hto : decide (0 ≤ b ∧ b < k) = ton
          have HTI := Lib.hid hti
          have HTO := Lib.hid hto
          clear hti hto
          go_upto_region 14 with fail
          go_cut [116] (fun v wx => v = .bool false ∧ UfS w g h k R wx ∧ Row wx A' (numsL k R))
          case first =>
            cases tin
            · have hi : ¬ (0 ≤ a ∧ a < k) := of_decide_eq_false HTI.out
              have HJ2 := Lib.hid (sameB_off (R := R) (b := b) (show ¬ (0 ≤ a ∧ a < k ∧ 0 ≤ b ∧ b < k) by omega))
              clear hi
              refine wp_region_any (by kernel_rfl) ?_
              try (change wpAny _ _ _ _ _ _ _ (World.drew _))
              refine wpAny_take (i := 0) (v := ?_) rfl (by kernel_rfl) (by kernel_rfl) (by kernel_rfl) (fun _ _ _ h => h) (Or.inl ⟨by rfl, ?_⟩) ?_
              rotate_left
              · (intro w; go_simp; with_reducible rfl)
              refine wpAny_take (i := 1) (v := ?_) rfl (by kernel_rfl) (by kernel_rfl) (by kernel_rfl) (fun _ _ _ h => h) (Or.inl ⟨by rfl, ?_⟩) ?_
              rotate_left
              · (intro w; go_simp; with_reducible rfl)
              refine wpAny_take (i := 2) (v := ?_) rfl (by kernel_rfl) (by kernel_rfl) (by kernel_rfl) (fun _ _ _ h => h) (Or.inl ⟨by rfl, ?_⟩) ?_
              rotate_left
              · (intro w; go_simp; with_reducible rfl)
              refine wpAny_take (i := 4) (v := ?_) rfl (by kernel_rfl) (by kernel_rfl) (by kernel_rfl) (fun _ _ _ h => h) (Or.inl ⟨by rfl, ?_⟩) ?_
              rotate_left
              · (intro w; go_simp; with_reducible rfl)
              refine wpAny_ready (rs := [3]) (by kernel_rfl) (by simp) ?_
              refine AllReady.cons rfl (fun K hK => ?_) AllReady.nil
              go_simp
              go_wp2_with (go_at_call 20; (with_reducible refine (uf_same a b w _ g h k R (UfS.drew HV.out.cls) false HJ2.out).mono ?_); rintro e w3 ⟨rfl, s3, k3⟩; have S3 := Lib.hid s3; have r3 := Row.keep (HV.out.row.grew (Grew.refl wr).drew) k3 HOF.out; have K3 := Lib.hid r3; clear s3 k3 r3)
              try (refine hK _ _ ?_; clear hK K)
              refine wpAny_rest 5 (by kernel_rfl) (by kernel_rfl) (by kernel_rfl) ?_
              simp only [List.drop_succ_cons, List.drop_zero]
              repeat (go_big_quiet_step ((fail)))
              refine wpQuiet_nil ?_
              rintro _ ⟨z, rfl⟩
              go_wp2_with fail
              go_meet
              exact ⟨rfl, S3.out.more _, K3.out.more _⟩
            cases ton
            · have hi : ¬ (0 ≤ b ∧ b < k) := of_decide_eq_false HTO.out
              have HJ2 := Lib.hid (sameB_off (R := R) (show ¬ (0 ≤ a ∧ a < k ∧ 0 ≤ b ∧ b < k) by omega))
              clear hi
              refine wp_region_any (by kernel_rfl) ?_
              try (change wpAny _ _ _ _ _ _ _ (World.drew _))
              refine wpAny_take (i := 0) (v := ?_) rfl (by kernel_rfl) (by kernel_rfl) (by kernel_rfl) (fun _ _ _ h => h) (Or.inl ⟨by rfl, ?_⟩) ?_
              rotate_left
              · (intro w; go_simp; with_reducible rfl)
              refine wpAny_take (i := 1) (v := ?_) rfl (by kernel_rfl) (by kernel_rfl) (by kernel_rfl) (fun _ _ _ h => h) (Or.inl ⟨by rfl, ?_⟩) ?_
              rotate_left
              · (intro w; go_simp; with_reducible rfl)
              refine wpAny_take (i := 2) (v := ?_) rfl (by kernel_rfl) (by kernel_rfl) (by kernel_rfl) (fun _ _ _ h => h) (Or.inl ⟨by rfl, ?_⟩) ?_
              rotate_left
              · (intro w; go_simp; with_reducible rfl)
              refine wpAny_take (i := 4) (v := ?_) rfl (by kernel_rfl) (by kernel_rfl) (by kernel_rfl) (fun _ _ _ h => h) (Or.inl ⟨by rfl, ?_⟩) ?_
              rotate_left
              · (intro w; go_simp; with_reducible rfl)
              refine wpAny_ready (rs := [3]) (by kernel_rfl) (by simp) ?_
              refine AllReady.cons rfl (fun K hK => ?_) AllReady.nil
              go_simp
              go_wp2_with (go_at_call 20; (with_reducible refine (uf_same a b w _ g h k R (UfS.drew HV.out.cls) false HJ2.out).mono ?_); rintro e w3 ⟨rfl, s3, k3⟩; have S3 := Lib.hid s3; have r3 := Row.keep (HV.out.row.grew (Grew.refl wr).drew) k3 HOF.out; have K3 := Lib.hid r3; clear s3 k3 r3)
              try (refine hK _ _ ?_; clear hK K)
              refine wpAny_rest 5 (by kernel_rfl) (by kernel_rfl) (by kernel_rfl) ?_
              simp only [List.drop_succ_cons, List.drop_zero]
              repeat (go_big_quiet_step ((fail)))
              refine wpQuiet_nil ?_
              rintro _ ⟨z, rfl⟩
              go_wp2_with fail
              go_meet
              exact ⟨rfl, S3.out.more _, K3.out.more _⟩
            · have hi : 0 ≤ a ∧ a < k := of_decide_eq_true HTI.out
              have ho : 0 ≤ b ∧ b < k := of_decide_eq_true HTO.out
              clear HTI HTO
              obtain ⟨h1, h2⟩ := hi
              obtain ⟨h3, h4⟩ := ho
              obtain ⟨a', rfl⟩ := Int.eq_ofNat_of_zero_le h1
              obtain ⟨b', rfl⟩ := Int.eq_ofNat_of_zero_le h3
              have ha' : a' < k := by omega
              have hb' : b' < k := by omega
              obtain ⟨rb, ro, rfl⟩ := nums_some HV.out.row ha'
              have HX : Hid (∀ W, Row W (some ⟨rb, ro, none⟩) (numsL k R) → (rb < W.heap.size ∧ W.cell? ⟨rb, ro + a', none⟩ = some (.int .i64 (R a'))) ∧ (rb < W.heap.size ∧ W.cell? ⟨rb, ro + b', none⟩ = some (.int .i64 (R b')))) := Lib.hid fun W hW => ⟨nums_cells hW ha' rfl, nums_cells hW hb' rfl⟩
              have HJ := Lib.hid (sameB_on (R := R) ha' hb')
              generalize hp' : R a' = p at *
              generalize hq' : R b' = q at *
              clear hp' hq' h1 h2 h3 h4
              by_cases hpq : p = q
              · subst hpq
                have t2 : ((p : Int) == (p : Int)) = true := by simp
                have HJ2 : Hid (sameB k R a' b' = true) := Lib.hid (by rw [HJ.out]; simp)
                refine wp_region_any (by kernel_rfl) ?_
                try (change wpAny _ _ _ _ _ _ _ (World.drew _))
                refine wpAny_take (i := 0) (v := ?_) rfl (by kernel_rfl) (by kernel_rfl) (by kernel_rfl) (fun _ _ _ h => h) (Or.inl ⟨by rfl, ?_⟩) ?_
                rotate_left
                · (intro w; go_simp; with_reducible rfl)
                refine wpAny_take (i := 1) (v := ?_) rfl (by kernel_rfl) (by kernel_rfl) (by kernel_rfl) (fun _ _ _ h => h) (Or.inl ⟨by rfl, ?_⟩) ?_
                rotate_left
                · (intro w; go_simp; with_reducible rfl)
                refine wpAny_take (i := 2) (v := ?_) rfl (by kernel_rfl) (by kernel_rfl) (by kernel_rfl) (fun _ _ _ h => h) (Or.inl ⟨by rfl, ?_⟩) ?_
                rotate_left
                · (intro w; go_simp; with_reducible rfl)
                refine wpAny_take (i := 4) (v := ?_) rfl (by kernel_rfl) (by kernel_rfl) (by kernel_rfl) (fun _ _ _ h => h) (Or.inl ⟨by rfl, ?_⟩) ?_
                rotate_left
                · (intro w; go_simp; with_reducible rfl)
                refine wpAny_ready (rs := [3]) (by kernel_rfl) (by simp) ?_
                refine AllReady.cons rfl (fun K hK => ?_) AllReady.nil
                go_simp
                go_wp2_with (go_at_call 20; (with_reducible refine (uf_same a' b' w _ g h k R (UfS.drew HV.out.cls) true HJ2.out).mono ?_); rintro e w3 ⟨rfl, s3, k3⟩; have S3 := Lib.hid s3; have r3 := Row.keep (HV.out.row.grew (Grew.refl wr).drew) k3 HOF.out; have K3 := Lib.hid r3; obtain ⟨⟨_, f0⟩, ⟨_, f1⟩⟩ := HX.out w3 r3; clear s3 k3 r3)
                try (refine hK _ _ ?_; clear hK K)
                refine wpAny_rest 5 (by kernel_rfl) (by kernel_rfl) (by kernel_rfl) ?_
                simp only [List.drop_succ_cons, List.drop_zero]
                repeat (go_big_quiet_step ((fail)))
                refine wpQuiet_nil ?_
                rintro _ ⟨z, rfl⟩
                go_wp2_with fail
                go_meet
                exact ⟨rfl, S3.out.more _, K3.out.more _⟩
              · have t2 : ((p : Int) == (q : Int)) = false := by rw [beq_eq_false_iff_ne]; omega
                have t3 : (p == q) = false := by rw [beq_eq_false_iff_ne]; exact hpq
                have HJ2 : Hid (sameB k R a' b' = false) := Lib.hid (by rw [HJ.out]; simpa using hpq)
                clear hpq
                refine wp_region_any (by kernel_rfl) ?_
                try (change wpAny _ _ _ _ _ _ _ (World.drew _))
                refine wpAny_take (i := 0) (v := ?_) rfl (by kernel_rfl) (by kernel_rfl) (by kernel_rfl) (fun _ _ _ h => h) (Or.inl ⟨by rfl, ?_⟩) ?_
                rotate_left
                · (intro w; go_simp; with_reducible rfl)
                refine wpAny_take (i := 1) (v := ?_) rfl (by kernel_rfl) (by kernel_rfl) (by kernel_rfl) (fun _ _ _ h => h) (Or.inl ⟨by rfl, ?_⟩) ?_
                rotate_left
                · (intro w; go_simp; with_reducible rfl)
                refine wpAny_take (i := 2) (v := ?_) rfl (by kernel_rfl) (by kernel_rfl) (by kernel_rfl) (fun _ _ _ h => h) (Or.inl ⟨by rfl, ?_⟩) ?_
                rotate_left
                · (intro w; go_simp; with_reducible rfl)
                refine wpAny_take (i := 4) (v := ?_) rfl (by kernel_rfl) (by kernel_rfl) (by kernel_rfl) (fun _ _ _ h => h) (Or.inl ⟨by rfl, ?_⟩) ?_
                rotate_left
                · (intro w; go_simp; with_reducible rfl)
                refine wpAny_ready (rs := [3]) (by kernel_rfl) (by simp) ?_
                refine AllReady.cons rfl (fun K hK => ?_) AllReady.nil
                go_simp
                go_wp2_with (go_at_call 20; (with_reducible refine (uf_same a' b' w _ g h k R (UfS.drew HV.out.cls) false HJ2.out).mono ?_); rintro e w3 ⟨rfl, s3, k3⟩; have S3 := Lib.hid s3; have r3 := Row.keep (HV.out.row.grew (Grew.refl wr).drew) k3 HOF.out; have K3 := Lib.hid r3; obtain ⟨⟨_, f0⟩, ⟨_, f1⟩⟩ := HX.out w3 r3; clear s3 k3 r3)
                try (refine hK _ _ ?_; clear hK K)
                refine wpAny_rest 5 (by kernel_rfl) (by kernel_rfl) (by kernel_rfl) ?_
                simp only [List.drop_succ_cons, List.drop_zero]
                repeat (go_big_quiet_step ((fail)))
                refine wpQuiet_nil ?_
                rintro _ ⟨z, rfl⟩
                go_wp2_with fail
                go_meet
                exact ⟨rfl, S3.out.more _, K3.out.more _⟩
          case rest =>
            obtain ⟨rfl, s3, r3⟩ := hcut
            have S3 := Lib.hid s3
            cases tin
            · have hi : ¬ (0 ≤ a ∧ a < k) := of_decide_eq_false HTI.out
              have HFI : Hid (findI k R a = -1) := Lib.hid (if_neg hi)
              clear hi s3 r3
              go_wp2_with (first | (go_at_call 21; (with_reducible refine (uf_find a _ w _ g h k R S3.out HFI.out).mono ?_); rintro e w4 ⟨rfl, s4, _⟩; have S4 := Lib.hid s4; clear s4) | (go_at_call 22; (with_reducible refine (uf_len w _ g h k R S4.out).mono ?_); rintro e w5 ⟨rfl, hw⟩; have hw := hw.symm; subst hw) | (go_at_call 15; refine (live6_any _).mono ?_; rintro e w6 ⟨rfl, hl6⟩))
              go_ret
              exact ⟨rfl, S4.out.grew.trans hl6⟩
            · have hi : 0 ≤ a ∧ a < k := of_decide_eq_true HTI.out
              clear HTI
              obtain ⟨h1, h2⟩ := hi
              obtain ⟨a', rfl⟩ := Int.eq_ofNat_of_zero_le h1
              have ha' : a' < k := by omega
              obtain ⟨rb, ro, rfl⟩ := nums_some HV.out.row ha'
              obtain ⟨hrb, d0⟩ := nums_cells r3 ha' rfl
              have HFI := Lib.hid (findI_on (R := R) ha')
              generalize R a' = p at *
              clear s3 r3
              go_wp2_with (first | (go_at_call 21; (with_reducible refine (uf_find a' _ w _ g h k R S3.out HFI.out).mono ?_); rintro e w4 ⟨rfl, s4, _⟩; have S4 := Lib.hid s4; clear s4) | (go_at_call 22; (with_reducible refine (uf_len w _ g h k R S4.out).mono ?_); rintro e w5 ⟨rfl, hw⟩; have hw := hw.symm; subst hw) | (go_at_call 15; refine (live6_any _).mono ?_; rintro e w6 ⟨rfl, hl6⟩))
              go_ret
              exact ⟨rfl, S4.out.grew.trans hl6⟩
end Go.Proofs.Ythngafgblehpoaa
