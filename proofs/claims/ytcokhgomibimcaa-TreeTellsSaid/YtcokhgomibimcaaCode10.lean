/- Layer 39: the document's own reading of a number. -/
import Derived.Test.YtcokhgomibimcaaCode9
import Derived.Test.YtcokhgomibimcaaCodeMath5
import Derived.Laws.BytesArg
import Derived.Deep.RegionWith
import Derived.Outline
namespace Go.Proofs.Ytcokhgomibimcaa
open Go.RowKit
attribute [local go_sem] more_cell more_frozen more_more more_setCell more_of_drew more_of_drewN lt_more le_more past_cell past_cell2 past_frozen past_frozen2 past_setCell past_setCell2 mid_cell mid_frozen mid_setCell
attribute [local go_sem ↓] Go.wp_at_zero Go.wp_at_succ

theorem strOfNums_nat (l : List Nat) : strOfNums (l.map fun (x : Nat) => (x : Int)) = strN l := by
  unfold strOfNums strN
  rw [List.map_map]
  rfl
theorem run_str (l : List Nat) (n : Nat) (hn : n = l.length) (A : Option Addr) (c : Nat) (w : World) (hr : Row w A (bV l)) : (convert 22 9 (.slice A n c)).run Try.prog w = .ok (.string (strN l)) w := by
  subst hn
  rcases hr with h | ⟨b, o, rfl, hb, hc⟩
  · have h2 : l = [] := List.map_eq_nil_iff.mp h
    subst h2
    rcases A with _ | a
    · exact run_convert_bytes_nil w _ _ Try.underlying22 Try.underlying5 _ _ _ Try.underlying9
    · have := run_convert_bytes_string (P := Try.prog) w 22 9 5 (some a) 0 c Try.underlying22 Try.underlying5 Try.underlying9
      show (convert 22 9 (.slice (some a) 0 c)).run Try.prog w = _
      rw [this]
      have h3 := run_bytesToString (P := Try.prog) w a 0 c [] (by rfl)
      rw [h3]
      rfl
  · have h1 := run_convert_bytes_arg (P := Try.prog) w 22 5 Try.underlying22 Try.underlying5 b o l.length c (l.map fun (x : Nat) => (x : Int)) (by simp) (fun i hi => by
      have := hc i (.int .u8 ((l[i] : Nat) : Int)) (by simp [bV, hi])
      rw [this]
      simp [hi]) 9 Try.underlying9
    rw [h1, strOfNums_nat]
theorem half_word (z : Nat) (h : z < 18446744073709551616) : wrap64 (IntKind.u64.wrap ((z : Int) / 2)) = ((z / 2 : Nat) : Int) := by
  rw [wrapu]
  unfold wrap64
  omega
theorem strN_eqT {a b : List Nat} (h : a = b) : ((strN a).toList == (strN b).toList) = true := by rw [h]; exact beq_self_eq_true _
theorem strN_eqF {a b : List Nat} (ha : bytesOk a) (hb : bytesOk b) (h : a ≠ b) : ((strN a).toList == (strN b).toList) = false := by
  rw [beq_eq_false_iff_ne, ByteArray.toList_eq, ByteArray.toList_eq]
  intro he
  exact h (strN_inj ha hb (ByteArray.ext (Array.toList_inj.mp he)))
theorem getint_r1 (l : List Nat) (A : Option Addr) (c : Nat) (n : Int) (h : n < 0 ∨ l.length ≤ n) (w : World) :
    Calls Try.prog 23 #[.slice A l.length c, .int .i64 n] w (GetIT w (getI l n)) := by
  have HI : Hid (getI l n = (0, 0, false)) := Lib.hid (getI_out h)
  generalize getI l n = r at *
  rcases h with h | h
  · go_enter Try.func23, Try.ntmps23
    go_wp2
    go_ret3
    rw [HI.out]
    exact ⟨rfl, Grew.refl _⟩
  · by_cases h1 : n < 0
    · go_enter Try.func23, Try.ntmps23
      go_wp2
      go_ret3
      rw [HI.out]
      exact ⟨rfl, Grew.refl _⟩
    · go_enter Try.func23, Try.ntmps23
      go_wp2
      go_ret3
      rw [HI.out]
      exact ⟨rfl, Grew.refl _⟩
def EndAt (l : List Nat) (p : Nat) (i : Value) : Prop := ∃ q : Nat, p ≤ q ∧ q ≤ l.length ∧ q ≤ p + 10 ∧ i = .int .i64 q ∧ q - p ≤ hiB (l.drop p)
def BackAt (l : List Nat) (p q : Nat) (z i : Value) : Prop := ∃ k : Int, (p : Int) - 1 ≤ k ∧ k ≤ q ∧ i = .int .i64 k ∧ z = .int .u64 (zAt l p q k : Nat)
set_option maxHeartbeats 4000000 in
set_option maxRecDepth 100000 in
theorem getint_r2 (l : List Nat) (A : Option Addr) (c : Nat) (p : Nat) (hc : l.length ≤ c) (hl : l.length ≤ 1000000) (hx : bytesOk l) (h : p < l.length) (w : World) (hr : Row w A (bV l)) :
    Calls Try.prog 23 #[.slice A l.length c, .int .i64 p] w (GetIT w (getI l p)) := by
  obtain ⟨b, o, rfl⟩ := brow_some hr h
  have HR := Lib.hid hr
  have HX := Lib.hid hx
  clear hr hx
  have HX2 : Hid (∀ x ∈ l.drop p, x < 256) := Lib.hid fun x hx' => HX.out x (List.mem_of_mem_drop hx')
  have h0 : ¬ (p : Int) < 0 := by omega
  have hnc : ¬ p = c := by omega
  obtain ⟨r, hr⟩ : ∃ r, getI l p = r := ⟨_, rfl⟩
  rw [hr]
  have HI := Lib.hid hr
  clear hr
  go_enter Try.func23, Try.ntmps23
  go_wp2
  go_loop [7] (fun i => EndAt l p i) (fun i => l.length - (intOf i).toNat)
  case atStart => exact ⟨p, Nat.le_refl _, by omega, by omega, rfl, by omega⟩
  case round =>
    obtain ⟨q, hq1, hq2, hq3, rfl, hj⟩ := hrel
    have HJ := Lib.hid hj
    clear hj
    by_cases h1 : q < l.length
    · by_cases h2 : q < p + 10
      · obtain ⟨hb, cx⟩ := brow_cell HR.out h1 rfl
        have hxb := HX.out l[q] (List.getElem_mem h1)
        have HD : Hid (∀ hq : q - p < (l.drop p).length, (l.drop p)[q - p] = l[q]) := Lib.hid fun hq => by
          rw [List.getElem_drop]
          congr 1
          omega
        have hdl : q - p < (l.drop p).length := by rw [List.length_drop]; omega
        by_cases h3 : 128 ≤ l[q]
        · have HS := Lib.hid (hiB_step (l.drop p) (q - p) HJ.out hdl (by rw [HD.out hdl]; exact h3))
          have h3' : 127 < (l[q] : Int) := by omega
          clear hdl HD
          generalize l[q] = x at *
          go_wp2
          go_round
          case rel => exact ⟨q + 1, by omega, by omega, by omega, by go_num, by have := HS.out; omega⟩
          case measure => simp only [intOf]; omega
        · have HS := Lib.hid (hiB_stop (l.drop p) (q - p) HJ.out hdl (by rw [HD.out hdl]; exact h3))
          have h3' : ¬ 127 < (l[q] : Int) := by omega
          clear hdl HD
          have e1 : ((q : Int) == (l.length : Int)) = false := by simp; omega
          have e2 : ((q : Int) == (p : Int) + 10) = false := by simp; omega
          generalize l[q] = x0 at *
          go_wp2
          go_loop [8, 9] (fun z i => BackAt l p q z i) (fun z i => (intOf i + 1).toNat)
          case atStart => exact ⟨q, by omega, Int.le_refl _, rfl, by rw [zAt_top l p q hq1]; rfl⟩
          case round =>
            obtain ⟨k, hk1, hk2, rfl, rfl⟩ := hrel
            by_cases hk : (p : Int) ≤ k
            · obtain ⟨j, rfl⟩ : ∃ j : Nat, k = j := ⟨k.toNat, by omega⟩
              have hjl : j < l.length := by omega
              obtain ⟨hb2, cx2⟩ := brow_cell HR.out hjl rfl
              have hxb2 := HX.out l[j] (List.getElem_mem hjl)
              have HZ := Lib.hid (zAt_step l p q j (by omega) (by omega) h1)
              have HL := Lib.hid (zAt_lt l p q j)
              obtain ⟨z2, hz2⟩ : ∃ z2, zAt l p q ((j : Int) - 1) = z2 := ⟨_, rfl⟩
              rw [hz2] at HZ
              have HZ2 := Lib.hid hz2
              clear hz2
              generalize zAt l p q j = z1 at *
              generalize l[j] = x at *
              obtain ⟨y, hy⟩ : ∃ y, x % 128 = y := ⟨_, rfl⟩
              have ey1 : (x : Int) % 128 = (y : Int) := by omega
              have ey2 : (x : Int).tmod 128 = (y : Int) := by rw [Int.tmod_eq_emod_of_nonneg (by omega)]; omega
              have ey3 : IntKind.u64.wrap (y : Int) = (y : Int) := by rw [wrapu]; omega
              have ez : IntKind.u64.wrap (IntKind.u64.wrap ((z1 : Int) * 128) + (y : Int)) = (z2 : Int) := by
                rw [wrapu, wrapu]
                have := HZ.out
                rw [hy] at this
                omega
              have hyy : y < 128 := by omega
              clear hy
              go_wp2
              go_round
              case rel => exact ⟨(j : Int) - 1, by omega, by omega, rfl, by rw [HZ2.out]⟩
              case measure => simp only [intOf]; omega
            · obtain rfl : k = (p : Int) - 1 := by omega
              have hq1' : q + 1 ≤ l.length := by omega
              obtain ⟨D, hD⟩ : ∃ D, (l.drop p).take (q - p + 1) = D := ⟨_, rfl⟩
              have HZ : Hid (zAt l p q ((p : Int) - 1) = valB D % 18446744073709551616) := Lib.hid (by rw [zAt_end, hD])
              have HL := Lib.hid (zAt_lt l p q ((p : Int) - 1))
              have HDl : Hid (D.length = q + 1 - p) := Lib.hid (by rw [← hD, List.length_take, List.length_drop]; omega)
              have HDr : Hid (∀ W, Grew w W → Row W (some ⟨b, o + p, none⟩) (bV D)) := Lib.hid fun W hW => by
                have h1 := row_drop (n := p) (HR.out.grew hW)
                rw [← hD]
                rcases h1 with h1 | ⟨b', o', hA, hb', hc'⟩
                · refine Or.inl ?_
                  have e := congrArg List.length h1
                  unfold bV at e
                  simp at e
                  omega
                · injection hA with hA
                  injection hA with e1 e2 _
                  subst e1 e2
                  refine Or.inr ⟨b, o + p, rfl, hb', fun j u hu => hc' j u ?_⟩
                  unfold bV at hu ⊢
                  rw [List.map_take] at hu
                  have hj : j < q - p + 1 := by
                    rcases Nat.lt_or_ge j (q - p + 1) with h | h
                    · exact h
                    · rw [List.getElem?_eq_none (by rw [List.length_take]; omega)] at hu
                      cases hu
                  rw [List.getElem?_take_of_lt hj, List.map_drop] at hu
                  exact hu
              have HS1 := HS.out
              have HY : Hid (∀ z, z < 18446744073709551616 → D = vb z → scan (l.drop p) 0 0 = some (z, q + 1 - p)) := Lib.hid fun z hz he => by
                have h2 := scan_same (l.drop p) z hz (by rw [HS1, hD]; exact he) (by rw [HS1]; rw [List.length_drop]; omega)
                rw [h2, HS1]
                congr 2
                omega
              have HN : Hid (D ≠ vb (zAt l p q ((p : Int) - 1)) → scan (l.drop p) 0 0 = none) := Lib.hid fun hne => by
                refine scan_other (l.drop p) HX2.out ?_
                rw [HS1, hD]
                rw [HZ.out] at hne
                exact hne
              have HDb : Hid (bytesOk D) := Lib.hid fun x hx => HX2.out x (by rw [← hD] at hx; exact List.mem_of_mem_take hx)
              clear HS1 hD HS
              generalize zAt l p q ((p : Int) - 1) = z at *
              go_upto_region 14 with fail
              obtain ⟨y, hy⟩ : ∃ y, z / 2 = y := ⟨_, rfl⟩
              rw [half_word z HL.out, hy]
              have hzz : Hid (zz (uz z) = z) := Lib.hid (zz_uz z)
              have hbd := Lib.hid (uz_bd z HL.out)
              have HR1 : Hid (D = vb z → r = (uz z, ((q + 1 : Nat) : Int), true)) := Lib.hid fun he => by
                rw [← HI.out, getI_some (by omega) (by omega) (HY.out z HL.out he)]
                congr 2
                omega
              have HR0 : Hid (D ≠ vb z → r = (0, 0, false)) := Lib.hid fun he => by
                rw [← HI.out, getI_none (by omega) (HN.out he)]
              have HIn : Hid (∀ W, Calls Try.prog 18 #[.int .i64 (uz z)] W (PutF W (vb z))) := Lib.hid fun W => by
                have h1 := rint_any (uz z) hbd.out.1 hbd.out.2 W
                rw [hzz.out] at h1
                exact h1
              have HVb : Hid (bytesOk (vb z)) := Lib.hid (vb_byte z HL.out)
              clear HY HN HI hzz hbd HZ HX2 HX HR
              rcases Nat.mod_two_eq_zero_or_one z with hpar | hpar
              · have EV : Hid (uz z = (y : Int)) := Lib.hid (by unfold uz; rw [if_neg (by omega), hy])
                have er1 : (z : Int) % 2 = 0 := by omega
                have er2 : (z : Int).tmod 2 = 0 := by rw [Int.tmod_eq_emod_of_nonneg (by omega)]; omega
                clear hy
                go_upto_region 16 with fail
                rw [← EV.out]
                clear er1 er2 hpar EV
                generalize uz z = v at *
                clear HL
                generalize vb z = V at *
                have CV0 : ∀ x, (convert 22 9 (.slice (some ⟨b, o + p, none⟩) (q + 1 - p) (c - p))).run Try.prog (more w x) = .ok (.string (strN D)) (more w x) := fun x => run_str D _ HDl.out.symm _ _ _ (HDr.out _ ⟨x, rfl⟩)
                have CV1 : (convert 22 9 (.slice (some ⟨b, o + p, none⟩) (q + 1 - p) (c - p))).run Try.prog w.drew = .ok (.string (strN D)) w.drew := run_str D _ HDl.out.symm _ _ _ (HDr.out _ (Grew.refl _).drew)
                have b1 : (p : Int) ≤ (q : Int) + 1 := by omega
                have b2 : (q : Int) + 1 ≤ (c : Int) := by omega
                have b3 : (0 : Int) ≤ (p : Int) := by omega
                have b4 : (0 : Int) ≤ (q : Int) + 1 := by omega
                have b5 : (p : Int) ≤ (c : Int) := by omega
                have b6 : ((q : Int) + 1).toNat = q + 1 := by omega
                have b7 : IntKind.i64.wrap ((q : Int) + 1) = (q : Int) + 1 := IntWalk.i64_in _ (by omega)
                by_cases he : D = V
                · have HRR : Hid (r = (v, ((q + 1 : Nat) : Int), true)) := Lib.hid (HR1.out he)
                  have en := strN_eqT he.symm
                  clear HR1 HR0 he
                  go_region_with ((go_at_call 18; (with_reducible refine (HIn.out _).mono ?_); rintro e w1 ⟨A1, c1, rfl, ho1, ⟨x1, rfl⟩⟩; have CV2 : (convert 22 9 (.slice A1 V.length c1)).run Try.prog (more w x1) = .ok (.string (strN V)) (more w x1) := run_str V _ rfl A1 c1 (more w x1) (put_row ho1); clear ho1))
                  all_goals
                    clear CV0 CV1 b6 b7
                    go_wp2
                    go_ret3
                    rw [HRR.out]
                    exact ⟨rfl, by (show Grew _ _; repeat (first | exact Grew.refl _ | refine Grew.alloc ?_ _ | refine Grew.drew ?_ | refine Grew.more ?_ _))⟩
                · have HRR : Hid (r = (0, 0, false)) := Lib.hid (HR0.out he)
                  have en := strN_eqF HVb.out HDb.out (fun h => he h.symm)
                  clear HR1 HR0 he
                  go_region_with ((go_at_call 18; (with_reducible refine (HIn.out _).mono ?_); rintro e w1 ⟨A1, c1, rfl, ho1, ⟨x1, rfl⟩⟩; have CV2 : (convert 22 9 (.slice A1 V.length c1)).run Try.prog (more w x1) = .ok (.string (strN V)) (more w x1) := run_str V _ rfl A1 c1 (more w x1) (put_row ho1); clear ho1))
                  all_goals
                    clear CV0 CV1 b6 b7
                    go_wp2
                    go_ret3
                    rw [HRR.out]
                    exact ⟨rfl, by (show Grew _ _; repeat (first | exact Grew.refl _ | refine Grew.alloc ?_ _ | refine Grew.drew ?_ | refine Grew.more ?_ _))⟩
              · have EV : Hid (wrap64 (wrap64 (-(y : Int)) - 1) = uz z) := Lib.hid (by have := HL.out; unfold uz; rw [if_pos hpar, hy]; unfold wrap64; omega)
                have er1 : (z : Int) % 2 = 1 := by omega
                have er2 : (z : Int).tmod 2 = 1 := by rw [Int.tmod_eq_emod_of_nonneg (by omega)]; omega
                clear hy
                go_upto_region 16 with fail
                rw [EV.out]
                clear er1 er2 hpar EV
                generalize uz z = v at *
                clear HL
                generalize vb z = V at *
                have CV0 : ∀ x, (convert 22 9 (.slice (some ⟨b, o + p, none⟩) (q + 1 - p) (c - p))).run Try.prog (more w x) = .ok (.string (strN D)) (more w x) := fun x => run_str D _ HDl.out.symm _ _ _ (HDr.out _ ⟨x, rfl⟩)
                have CV1 : (convert 22 9 (.slice (some ⟨b, o + p, none⟩) (q + 1 - p) (c - p))).run Try.prog w.drew = .ok (.string (strN D)) w.drew := run_str D _ HDl.out.symm _ _ _ (HDr.out _ (Grew.refl _).drew)
                have b1 : (p : Int) ≤ (q : Int) + 1 := by omega
                have b2 : (q : Int) + 1 ≤ (c : Int) := by omega
                have b3 : (0 : Int) ≤ (p : Int) := by omega
                have b4 : (0 : Int) ≤ (q : Int) + 1 := by omega
                have b5 : (p : Int) ≤ (c : Int) := by omega
                have b6 : ((q : Int) + 1).toNat = q + 1 := by omega
                have b7 : IntKind.i64.wrap ((q : Int) + 1) = (q : Int) + 1 := IntWalk.i64_in _ (by omega)
                by_cases he : D = V
                · have HRR : Hid (r = (v, ((q + 1 : Nat) : Int), true)) := Lib.hid (HR1.out he)
                  have en := strN_eqT he.symm
                  clear HR1 HR0 he
                  go_region_with ((go_at_call 18; (with_reducible refine (HIn.out _).mono ?_); rintro e w1 ⟨A1, c1, rfl, ho1, ⟨x1, rfl⟩⟩; have CV2 : (convert 22 9 (.slice A1 V.length c1)).run Try.prog (more w x1) = .ok (.string (strN V)) (more w x1) := run_str V _ rfl A1 c1 (more w x1) (put_row ho1); clear ho1))
                  all_goals
                    clear CV0 CV1 b6 b7
                    go_wp2
                    go_ret3
                    rw [HRR.out]
                    exact ⟨rfl, by (show Grew _ _; repeat (first | exact Grew.refl _ | refine Grew.alloc ?_ _ | refine Grew.drew ?_ | refine Grew.more ?_ _))⟩
                · have HRR : Hid (r = (0, 0, false)) := Lib.hid (HR0.out he)
                  have en := strN_eqF HVb.out HDb.out (fun h => he h.symm)
                  clear HR1 HR0 he
                  go_region_with ((go_at_call 18; (with_reducible refine (HIn.out _).mono ?_); rintro e w1 ⟨A1, c1, rfl, ho1, ⟨x1, rfl⟩⟩; have CV2 : (convert 22 9 (.slice A1 V.length c1)).run Try.prog (more w x1) = .ok (.string (strN V)) (more w x1) := run_str V _ rfl A1 c1 (more w x1) (put_row ho1); clear ho1))
                  all_goals
                    clear CV0 CV1 b6 b7
                    go_wp2
                    go_ret3
                    rw [HRR.out]
                    exact ⟨rfl, by (show Grew _ _; repeat (first | exact Grew.refl _ | refine Grew.alloc ?_ _ | refine Grew.drew ?_ | refine Grew.more ?_ _))⟩
      · obtain rfl : q = p + 10 := by omega
        have HN : Hid (r = (0, 0, false)) := Lib.hid (by
          rw [← HI.out, getI_none (by omega) (scan_far (l.drop p) HX2.out (Or.inr (by have := HJ.out; omega)))])
        have e1 : (((p + 10 : Nat) : Int) == (l.length : Int)) = false := by simp; omega
        have e2 : ((p : Int) + 10 == (l.length : Int)) = false := by simp; omega
        go_wp2
        go_ret3
        rw [HN.out]
        exact ⟨rfl, Grew.refl _⟩
    · obtain rfl : q = l.length := by omega
      have HN : Hid (r = (0, 0, false)) := Lib.hid (by
        rw [← HI.out, getI_none (by omega) (scan_far (l.drop p) HX2.out (Or.inl (by have := HJ.out; rw [List.length_drop]; omega)))])
      go_wp2
      go_ret3
      rw [HN.out]
      exact ⟨rfl, Grew.refl _⟩
end Go.Proofs.Ytcokhgomibimcaa
