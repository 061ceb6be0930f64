/- Layer 19: the law of the ends of values. Condition: values that lie in memory that is there, texts that fit into it. -/
import Derived.Test.YthngafgblehpoaaSpan6
import Derived.Test.YthngafgblehpoaaLawSpan
namespace Go.Proofs.Ythngafgblehpoaa
open Go.RowKit
attribute [local go_sem] more_cell more_frozen more_more more_setCell more_of_drew more_of_drewN lt_more le_more past_cell past_cell2 past_frozen past_frozen2 past_setCell past_setCell2 mid_cell mid_frozen mid_setCell
attribute [local go_sem ↓] Go.wp_at_zero Go.wp_at_succ

theorem cells3 {w : World} {g : Nat} {t : TypeId} {a b c : Value} (h : Blok w g t #[a, b, c]) : g < w.heap.size ∧ w.cell? ⟨g, 0, none⟩ = some a ∧ w.cell? ⟨g, 1, none⟩ = some b ∧ w.cell? ⟨g, 2, none⟩ = some c := ⟨h.lt, h.cell 0, h.cell 1, h.cell 2⟩
theorem cells8 {w : World} {g : Nat} {t : TypeId} {a b c d e f x y : Value} (h : Blok w g t #[a, b, c, d, e, f, x, y]) : g < w.heap.size ∧ w.cell? ⟨g, 0, none⟩ = some a ∧ w.cell? ⟨g, 1, none⟩ = some b ∧ w.cell? ⟨g, 2, none⟩ = some c ∧ w.cell? ⟨g, 3, none⟩ = some d ∧ w.cell? ⟨g, 4, none⟩ = some e ∧ w.cell? ⟨g, 5, none⟩ = some f ∧ w.cell? ⟨g, 6, none⟩ = some x ∧ w.cell? ⟨g, 7, none⟩ = some y := ⟨h.lt, h.cell 0, h.cell 1, h.cell 2, h.cell 3, h.cell 4, h.cell 5, h.cell 6, h.cell 7⟩
set_option maxHeartbeats 8000000 in
set_option maxRecDepth 100000 in
theorem spanTells_walk (a b : List V) (A B : Option Addr) (c d : Nat) (ha : a.length ≤ maxLen) (hb : b.length ≤ maxLen) (za : ∀ v ∈ a, v.s.size ≤ maxLen) (zb : ∀ v ∈ b, v.s.size ≤ maxLen) (vk vi : Int) (vs : ByteArray) (zv : vs.size ≤ maxLen) (w : World) (ra : VRow w A a) (rb : VRow w B b) :
    Gives Try.prog 6 #[.slice A a.length c, .slice B b.length d, .agg #[.int .i64 vk, .int .i64 vi, .string vs]] w (.bool true) := by
  unfold Gives
  have RA := Lib.hid ra
  have RB := Lib.hid rb
  have HLA := Lib.hid ha
  have HLB := Lib.hid hb
  have ZA := Lib.hid za
  have ZB := Lib.hid zb
  have zv' : (vs.size : Int) ≤ 9223372036854775807 := by unfold maxLen at zv; omega
  have ZV := Lib.hid zv
  clear ra rb ha hb za zb zv
  go_enter Try.func6, Try.ntmps6
  go_wp2_with fail
  refine (much_two [⟨A, c, a⟩, ⟨B, d, b⟩] _ _ _ rfl (by simp) _ (two_rows _ A B c d a b _ (RA.out.grew ((Grew.refl w).alloc _)) (RB.out.grew ((Grew.refl w).alloc _)) _ (by simp)) (by intro r hr; simp only [List.mem_cons, List.not_mem_nil, or_false] at hr; rcases hr with rfl | rfl; exact HLA.out; exact HLB.out)).mono ?_
  rintro e w1 ⟨t, rfl, hw, ht⟩
  have hB5 : Blok w1 w.heap.size 44 #[.int .i64 vk, .int .i64 vi, .string vs] := by rw [hw]; exact (Blok.new w _ _ _ rfl).alloc _
  have hG1 : Grew w w1 := by rw [hw]; exact ((Grew.refl w).alloc _).alloc _
  clear hw
  obtain ⟨hb5, v0, v1, v2⟩ := cells3 hB5
  have B5 := Lib.hid hB5
  have G1 := Lib.hid hG1
  clear hB5 hG1
  cases t
  rotate_left
  · clear ht
    go_wp2_with (first | (go_at_call 29; refine (live19_any _).mono ?_; rintro e w' ⟨rfl, x, rfl⟩))
    go_ret
    exact ⟨rfl, by obtain ⟨y, rfl⟩ := G1.out; (show Grew _ _; repeat (first | exact Grew.refl _ | refine Grew.alloc ?_ _ | refine Grew.drew ?_ | refine Grew.more ?_ _))⟩
  by_cases hlong : 300 < vs.size
  · clear ht
    go_wp2_with (first | (go_at_call 29; refine (live19_any _).mono ?_; rintro e w' ⟨rfl, x, rfl⟩))
    go_ret
    exact ⟨rfl, by obtain ⟨y, rfl⟩ := G1.out; (show Grew _ _; repeat (first | exact Grew.refl _ | refine Grew.alloc ?_ _ | refine Grew.drew ?_ | refine Grew.more ?_ _))⟩
  · have hla : a.length ≤ 40 := ht rfl ⟨A, c, a⟩ (by simp)
    have hlb : b.length ≤ 40 := ht rfl ⟨B, d, b⟩ (by simp)
    clear ht HLA HLB
    have hsum : (a ++ b).length ≤ 80 := by simp; omega
    have zab : ∀ v ∈ a ++ b, v.s.size ≤ maxLen := fun v hv => (List.mem_append.1 hv).elim (ZA.out v) (ZB.out v)
    obtain ⟨s, hs⟩ : ∃ s, addS zeroS (a ++ b) = s := ⟨_, rfl⟩
    obtain ⟨r, hr⟩ : ∃ r, addS zeroS a = r := ⟨_, rfl⟩
    obtain ⟨q, hq⟩ : ∃ q, addS zeroS b = q := ⟨_, rfl⟩
    have hF1 : ∀ j, j ≤ a.length → fewS (addS zeroS (a.take j)) := fewS_take [] a (by simp; omega)
    have hF2 : ∀ j, j ≤ b.length → fewS (addS r (b.take j)) := by rw [← hr]; exact fewS_take a b (by omega)
    have hF3 : ∀ j, j ≤ b.length → fewS (addS zeroS (b.take j)) := fewS_take [] b (by simp; omega)
    have hFr : fewS r := by rw [← hr]; exact fewS_of a (by omega)
    have hFq : fewS q := by rw [← hq]; exact fewS_of b (by omega)
    have hFs : fewS s := by rw [← hs]; exact fewS_of _ (by omega)
    have hrs : addS r b = s := by rw [← hr, addS_append, hs]
    have hqr : unionS q r = s := by rw [← hq, ← hr, addS_union, hs]
    have hcnt : s.whole + s.nulls = ((a.length + b.length : Nat) : Int) := by
      have hI := Is.of (a ++ b)
      rw [hs] at hI
      have h1 := hI.whole
      have h2 := hI.nulls
      have h3 := nn_le (a ++ b)
      rw [List.length_append] at h2 h3
      omega
    obtain ⟨t, htt⟩ : ∃ t, hasS s ⟨vk, vi, vs⟩ = t := ⟨_, rfl⟩
    obtain ⟨⟨lk, li, ls⟩, ⟨hk, hi, hh⟩, wh, nu⟩ := s
    obtain ⟨⟨rlk, rli, rls⟩, ⟨rhk, rhi, rhh⟩, rwh, rnu⟩ := r
    obtain ⟨⟨qlk, qli, qls⟩, ⟨qhk, qhi, qhh⟩, qwh, qnu⟩ := q
    simp only at hcnt
    have HCNT := Lib.hid hcnt
    have HA1 : Hid (∀ W, VRow W A a → Calls Try.prog 31 #[.agg #[.int .i64 0, .int .i64 0, .string ⟨#[]⟩, .int .i64 0, .int .i64 0, .string ⟨#[]⟩, .int .i64 0, .int .i64 0], .slice A a.length c] W fun e w' => e = .returned (.agg #[.int .i64 rlk, .int .i64 rli, .string rls, .int .i64 rhk, .int .i64 rhi, .string rhh, .int .i64 rwh, .int .i64 rnu]) ∧ ∃ z, w' = more W z) := Lib.hid fun W hW => add_to zeroS _ a A _ c rfl (by omega) hF1 W hW hr
    have HA2 : Hid (∀ W, VRow W B b → Calls Try.prog 31 #[.agg #[.int .i64 rlk, .int .i64 rli, .string rls, .int .i64 rhk, .int .i64 rhi, .string rhh, .int .i64 rwh, .int .i64 rnu], .slice B b.length d] W fun e w' => e = .returned (.agg #[.int .i64 lk, .int .i64 li, .string ls, .int .i64 hk, .int .i64 hi, .string hh, .int .i64 wh, .int .i64 nu]) ∧ ∃ z, w' = more W z) := Lib.hid fun W hW => add_to _ _ b B _ d rfl (by omega) hF2 W hW hrs
    have HA3 : Hid (∀ W, VRow W B b → Calls Try.prog 31 #[.agg #[.int .i64 0, .int .i64 0, .string ⟨#[]⟩, .int .i64 0, .int .i64 0, .string ⟨#[]⟩, .int .i64 0, .int .i64 0], .slice B b.length d] W fun e w' => e = .returned (.agg #[.int .i64 qlk, .int .i64 qli, .string qls, .int .i64 qhk, .int .i64 qhi, .string qhh, .int .i64 qwh, .int .i64 qnu]) ∧ ∃ z, w' = more W z) := Lib.hid fun W hW => add_to zeroS _ b B _ d rfl (by omega) hF3 W hW hq
    have HU : Hid (∀ W, Gives Try.prog 32 #[.agg #[.int .i64 qlk, .int .i64 qli, .string qls, .int .i64 qhk, .int .i64 qhi, .string qhh, .int .i64 qwh, .int .i64 qnu], .agg #[.int .i64 rlk, .int .i64 rli, .string rls, .int .i64 rhk, .int .i64 rhi, .string rhh, .int .i64 rwh, .int .i64 rnu]] W (.agg #[.int .i64 lk, .int .i64 li, .string ls, .int .i64 hk, .int .i64 hi, .string hh, .int .i64 wh, .int .i64 nu])) := Lib.hid fun W => union_to ⟨⟨qlk, qli, qls⟩, ⟨qhk, qhi, qhh⟩, qwh, qnu⟩ ⟨⟨rlk, rli, rls⟩, ⟨rhk, rhi, rhh⟩, rwh, rnu⟩ _ hFq hFr hqr W
    have HLO : Hid (∀ W, Gives Try.prog 33 #[.agg #[.int .i64 lk, .int .i64 li, .string ls, .int .i64 hk, .int .i64 hi, .string hh, .int .i64 wh, .int .i64 nu]] W (.tuple #[.agg #[.int .i64 lk, .int .i64 li, .string ls], .bool (decide (0 < wh))])) := Lib.hid fun W => low_val ⟨⟨lk, li, ls⟩, ⟨hk, hi, hh⟩, wh, nu⟩ W
    have HHI : Hid (∀ W, Gives Try.prog 34 #[.agg #[.int .i64 lk, .int .i64 li, .string ls, .int .i64 hk, .int .i64 hi, .string hh, .int .i64 wh, .int .i64 nu]] W (.tuple #[.agg #[.int .i64 hk, .int .i64 hi, .string hh], .bool (decide (0 < wh))])) := Lib.hid fun W => high_val ⟨⟨lk, li, ls⟩, ⟨hk, hi, hh⟩, wh, nu⟩ W
    have HNU : Hid (∀ W, Gives Try.prog 35 #[.agg #[.int .i64 lk, .int .i64 li, .string ls, .int .i64 hk, .int .i64 hi, .string hh, .int .i64 wh, .int .i64 nu]] W (.bool (decide (0 < nu)))) := Lib.hid fun W => nulls_to ⟨⟨lk, li, ls⟩, ⟨hk, hi, hh⟩, wh, nu⟩ _ rfl W
    have HCO : Hid (∀ W, Gives Try.prog 38 #[.agg #[.int .i64 lk, .int .i64 li, .string ls, .int .i64 hk, .int .i64 hi, .string hh, .int .i64 wh, .int .i64 nu]] W (.int .i64 ((a.length + b.length : Nat) : Int))) := Lib.hid fun W => (by have h := count_val ⟨⟨lk, li, ls⟩, ⟨hk, hi, hh⟩, wh, nu⟩ hFs W; rw [show (⟨⟨lk, li, ls⟩, ⟨hk, hi, hh⟩, wh, nu⟩ : S).whole + (⟨⟨lk, li, ls⟩, ⟨hk, hi, hh⟩, wh, nu⟩ : S).nulls = ((a.length + b.length : Nat) : Int) from HCNT.out] at h; exact h)
    have HHA : Hid (∀ W, Gives Try.prog 36 #[.agg #[.int .i64 lk, .int .i64 li, .string ls, .int .i64 hk, .int .i64 hi, .string hh, .int .i64 wh, .int .i64 nu], .agg #[.int .i64 vk, .int .i64 vi, .string vs]] W (.bool t)) := Lib.hid fun W => has_to ⟨⟨lk, li, ls⟩, ⟨hk, hi, hh⟩, wh, nu⟩ ⟨vk, vi, vs⟩ t htt W
    have HEN : Hid (∀ (W : World) (A3 : Option Addr) (c3 : Nat), VRow W A3 (a ++ b) → Gives Try.prog 30 #[.slice A3 (a.length + b.length) c3] W (.tuple #[.agg #[.int .i64 lk, .int .i64 li, .string ls], .agg #[.int .i64 hk, .int .i64 hi, .string hh], .bool (decide (0 < wh)), .bool (decide (0 < nu))])) := Lib.hid fun W A3 c3 hW => (by have h := ends_val (a ++ b) A3 c3 (by omega) zab W hW _ hs; rw [List.length_append] at h; exact h)
    have HRH : Hid (∀ (W : World) (A3 : Option Addr) (c3 : Nat), VRow W A3 (a ++ b) → Gives Try.prog 37 #[.slice A3 (a.length + b.length) c3, .agg #[.int .i64 vk, .int .i64 vi, .string vs]] W (.bool t)) := Lib.hid fun W A3 c3 hW => rhas_to (a ++ b) A3 _ c3 (by rw [List.length_append]) (by omega) zab ⟨vk, vi, vs⟩ ZV.out _ hs t htt W hW
    clear hF1 hF2 hF3 hFr hFq hFs hrs hqr hcnt htt hs hr hq zab ZA ZB HCNT
    go_upto_region 3 with fail
    clear v0 v1 v2 hb5
    go_cut [7] (fun v wx => ∃ A3 c3, v = .slice A3 (a.length + b.length) c3 ∧ VRow wx A3 (a ++ b) ∧ Grew w1 wx)
    case first =>
      go_wp2_with (first | (at_builtin; refine wpList_apps rfl (.tmp 31) (.tmp 32) 42 44 3 rfl w1 _ 32 Try.underlying42 infoVal rfl (by decide) (by decide) _ 0 [] rfl (own_empty _ _ _ _ _ rfl (Nat.le_refl _)) A a.length c (a.map vc).flatten rfl (flat_len a) (row_of_vrow (RA.out.grew (G1.out.alloc _))) (flat_one a) (by omega) ((Grew.refl w1).alloc _) ?_))
      intro A1 c1 w2 ho1 _ hg1 _ _
      have HO1 := Lib.hid ho1
      have HG1 := Lib.hid hg1
      clear ho1 hg1
      go_wp2_with (first | (at_builtin; refine wpList_apps rfl (.tmp 33) (.tmp 34) 42 44 3 rfl w1 _ 32 Try.underlying42 infoVal rfl (by decide) (by decide) _ _ _ rfl HO1.out B b.length d (b.map vc).flatten rfl (flat_len b) (row_of_vrow (RB.out.grew (G1.out.trans HG1.out))) (flat_one b) (by omega) HG1.out ?_))
      intro A3 c3 w3 ho3 hr3 hg3 _ _
      have HR3 := Lib.hid hr3
      have HG3 := Lib.hid hg3
      clear ho3 hr3 hg3
      go_wp2_with fail
      go_meet
      exact ⟨_, _, by first | rfl | (simp; done), vrow_of_row (by have h := HR3.out; simpa [List.map_append, List.flatten_append] using h), HG3.out⟩
    case rest =>
      obtain ⟨A3, c3, rfl, hr3, hg3⟩ := hcut
      have G3 := Lib.hid (G1.out.trans hg3)
      have B5 := Lib.hid (B5.out.grew hg3)
      have R3 := Lib.hid hr3
      clear hr3 hg3 G1
      obtain ⟨wp, hwp⟩ : ∃ wp : World, wp = wc := ⟨_, rfl⟩
      subst hwp
      go_upto_region 4 with fail
      go_cut [8, 9, 10, 11] (fun s8 s9 s10 s11 wx => ∃ g8, ∃ g9, s8 = .pointer (some ⟨g8, 0, none⟩) ∧ s9 = .pointer (some ⟨g9, 0, none⟩) ∧ s10 = .bool (decide (0 < wh)) ∧ s11 = .bool (decide (0 < nu)) ∧ Blok wx g8 44 #[.int .i64 lk, .int .i64 li, .string ls] ∧ Blok wx g9 44 #[.int .i64 hk, .int .i64 hi, .string hh] ∧ Grew wp wx)
      case first =>
        go_wp2_with (first | (go_at_call 30; refine (HEN.out _ _ _ R3.out).mono ?_; rintro e w' ⟨rfl, y1, rfl⟩))
        go_meet
        exact ⟨_, _, rfl, rfl, rfl, rfl, (Blok.new _ _ _ _ (by simp)).alloc _, Blok.new _ _ _ _ (by simp), by (show Grew _ _; repeat (first | exact Grew.refl _ | refine Grew.alloc ?_ _ | refine Grew.drew ?_ | refine Grew.more ?_ _))⟩
      case rest =>
        obtain ⟨g8, g9, rfl, rfl, rfl, rfl, b8, b9, hgw⟩ := hcut
        have B5 := Lib.hid (B5.out.grew hgw)
        have B8 := Lib.hid b8
        have B9 := Lib.hid b9
        have G3 := Lib.hid (G3.out.trans hgw)
        have R3 := Lib.hid (R3.out.grew hgw)
        clear hgw b8 b9
        obtain ⟨wp, hwp⟩ : ∃ wp : World, wp = wc := ⟨_, rfl⟩
        subst hwp
        go_upto_region 5 with fail
        go_cut [12] (fun s12 wx => ∃ g12, s12 = .pointer (some ⟨g12, 0, none⟩) ∧ Blok wx g12 50 #[.int .i64 lk, .int .i64 li, .string ls, .int .i64 hk, .int .i64 hi, .string hh, .int .i64 wh, .int .i64 nu] ∧ Grew wp wx)
        case first =>
          go_wp2_with (first | (go_at_call_of 31 (Value.slice A a.length c); refine (HA1.out _ (by exact RA.out.grew (G3.out.trans (by (show Grew _ _; repeat (first | exact Grew.refl _ | refine Grew.alloc ?_ _ | refine Grew.drew ?_ | refine Grew.more ?_ _)))))).mono ?_; rintro e w' ⟨rfl, y1, rfl⟩) | (go_at_call_of 31 (Value.slice B b.length d); refine (HA2.out _ (by exact RB.out.grew (G3.out.trans (by (show Grew _ _; repeat (first | exact Grew.refl _ | refine Grew.alloc ?_ _ | refine Grew.drew ?_ | refine Grew.more ?_ _)))))).mono ?_; rintro e w' ⟨rfl, y2, rfl⟩))
          go_meet
          exact ⟨_, rfl, Blok.new _ _ _ _ (by simp), by (show Grew _ _; repeat (first | exact Grew.refl _ | refine Grew.alloc ?_ _ | refine Grew.drew ?_ | refine Grew.more ?_ _))⟩
        case rest =>
          obtain ⟨g12, rfl, b12, hgw⟩ := hcut
          have B5 := Lib.hid (B5.out.grew hgw)
          have B8 := Lib.hid (B8.out.grew hgw)
          have B9 := Lib.hid (B9.out.grew hgw)
          have B12 := Lib.hid b12
          have G3 := Lib.hid (G3.out.trans hgw)
          have R3 := Lib.hid (R3.out.grew hgw)
          clear hgw b12
          obtain ⟨wp, hwp⟩ : ∃ wp : World, wp = wc := ⟨_, rfl⟩
          subst hwp
          go_upto_region 6 with fail
          go_cut [13] (fun s13 wx => ∃ g13, s13 = .pointer (some ⟨g13, 0, none⟩) ∧ Blok wx g13 50 #[.int .i64 lk, .int .i64 li, .string ls, .int .i64 hk, .int .i64 hi, .string hh, .int .i64 wh, .int .i64 nu] ∧ Grew wp wx)
          case first =>
            go_wp2_with (first | (go_at_call_of 31 (Value.slice A a.length c); refine (HA1.out _ (by exact RA.out.grew (G3.out.trans (by (show Grew _ _; repeat (first | exact Grew.refl _ | refine Grew.alloc ?_ _ | refine Grew.drew ?_ | refine Grew.more ?_ _)))))).mono ?_; rintro e w' ⟨rfl, y1, rfl⟩) | (go_at_call_of 31 (Value.slice B b.length d); refine (HA3.out _ (by exact RB.out.grew (G3.out.trans (by (show Grew _ _; repeat (first | exact Grew.refl _ | refine Grew.alloc ?_ _ | refine Grew.drew ?_ | refine Grew.more ?_ _)))))).mono ?_; rintro e w' ⟨rfl, y2, rfl⟩) | (go_at_call 32; refine (HU.out _).mono ?_; rintro e w' ⟨rfl, y3, rfl⟩))
            go_meet
            exact ⟨_, rfl, Blok.new _ _ _ _ (by simp), by (show Grew _ _; repeat (first | exact Grew.refl _ | refine Grew.alloc ?_ _ | refine Grew.drew ?_ | refine Grew.more ?_ _))⟩
          case rest =>
            obtain ⟨g13, rfl, b13, hgw⟩ := hcut
            have B5 := Lib.hid (B5.out.grew hgw)
            have B8 := Lib.hid (B8.out.grew hgw)
            have B9 := Lib.hid (B9.out.grew hgw)
            have B12 := Lib.hid (B12.out.grew hgw)
            have B13 := Lib.hid b13
            have G3 := Lib.hid (G3.out.trans hgw)
            have R3 := Lib.hid (R3.out.grew hgw)
            clear hgw b13
            obtain ⟨wp, hwp⟩ : ∃ wp : World, wp = wc := ⟨_, rfl⟩
            subst hwp
            go_upto_region 7 with fail
            obtain ⟨pB12, qB120, qB121, qB122, qB123, qB124, qB125, qB126, qB127⟩ := cells8 B12.out
            go_cut [14, 15] (fun s14 s15 wx => ∃ g14, s14 = .pointer (some ⟨g14, 0, none⟩) ∧ s15 = .bool (decide (0 < wh)) ∧ Blok wx g14 44 #[.int .i64 lk, .int .i64 li, .string ls] ∧ Grew wp wx)
            case first =>
              go_wp2_with (first | (go_at_call 33; refine (HLO.out _).mono ?_; rintro e w' ⟨rfl, y1, rfl⟩))
              go_meet
              exact ⟨_, rfl, rfl, Blok.new _ _ _ _ (by simp), by (show Grew _ _; repeat (first | exact Grew.refl _ | refine Grew.alloc ?_ _ | refine Grew.drew ?_ | refine Grew.more ?_ _))⟩
            case rest =>
              obtain ⟨g14, rfl, rfl, b14, hgw⟩ := hcut
              clear pB12 qB120 qB121 qB122 qB123 qB124 qB125 qB126 qB127
              have B5 := Lib.hid (B5.out.grew hgw)
              have B8 := Lib.hid (B8.out.grew hgw)
              have B9 := Lib.hid (B9.out.grew hgw)
              have B12 := Lib.hid (B12.out.grew hgw)
              have B13 := Lib.hid (B13.out.grew hgw)
              have B14 := Lib.hid b14
              have G3 := Lib.hid (G3.out.trans hgw)
              have R3 := Lib.hid (R3.out.grew hgw)
              clear hgw b14
              obtain ⟨wp, hwp⟩ : ∃ wp : World, wp = wc := ⟨_, rfl⟩
              subst hwp
              go_upto_region 8 with fail
              obtain ⟨pB13, qB130, qB131, qB132, qB133, qB134, qB135, qB136, qB137⟩ := cells8 B13.out
              go_cut [16, 17] (fun s16 s17 wx => ∃ g16, s16 = .pointer (some ⟨g16, 0, none⟩) ∧ s17 = .bool (decide (0 < wh)) ∧ Blok wx g16 44 #[.int .i64 hk, .int .i64 hi, .string hh] ∧ Grew wp wx)
              case first =>
                go_wp2_with (first | (go_at_call 34; refine (HHI.out _).mono ?_; rintro e w' ⟨rfl, y1, rfl⟩))
                go_meet
                exact ⟨_, rfl, rfl, Blok.new _ _ _ _ (by simp), by (show Grew _ _; repeat (first | exact Grew.refl _ | refine Grew.alloc ?_ _ | refine Grew.drew ?_ | refine Grew.more ?_ _))⟩
              case rest =>
                obtain ⟨g16, rfl, rfl, b16, hgw⟩ := hcut
                clear pB13 qB130 qB131 qB132 qB133 qB134 qB135 qB136 qB137
                have B5 := Lib.hid (B5.out.grew hgw)
                have B8 := Lib.hid (B8.out.grew hgw)
                have B9 := Lib.hid (B9.out.grew hgw)
                have B12 := Lib.hid (B12.out.grew hgw)
                have B13 := Lib.hid (B13.out.grew hgw)
                have B14 := Lib.hid (B14.out.grew hgw)
                have B16 := Lib.hid b16
                have G3 := Lib.hid (G3.out.trans hgw)
                have R3 := Lib.hid (R3.out.grew hgw)
                clear hgw b16
                obtain ⟨wp, hwp⟩ : ∃ wp : World, wp = wc := ⟨_, rfl⟩
                subst hwp
                go_upto_region 9 with fail
                obtain ⟨pB13, qB130, qB131, qB132, qB133, qB134, qB135, qB136, qB137⟩ := cells8 B13.out
                go_cut [18, 19] (fun s18 s19 wx => ∃ g18, s18 = .pointer (some ⟨g18, 0, none⟩) ∧ s19 = .bool (decide (0 < wh)) ∧ Blok wx g18 44 #[.int .i64 lk, .int .i64 li, .string ls] ∧ Grew wp wx)
                case first =>
                  go_wp2_with (first | (go_at_call 33; refine (HLO.out _).mono ?_; rintro e w' ⟨rfl, y1, rfl⟩))
                  go_meet
                  exact ⟨_, rfl, rfl, Blok.new _ _ _ _ (by simp), by (show Grew _ _; repeat (first | exact Grew.refl _ | refine Grew.alloc ?_ _ | refine Grew.drew ?_ | refine Grew.more ?_ _))⟩
                case rest =>
                  obtain ⟨g18, rfl, rfl, b18, hgw⟩ := hcut
                  clear pB13 qB130 qB131 qB132 qB133 qB134 qB135 qB136 qB137
                  have B5 := Lib.hid (B5.out.grew hgw)
                  have B8 := Lib.hid (B8.out.grew hgw)
                  have B9 := Lib.hid (B9.out.grew hgw)
                  have B12 := Lib.hid (B12.out.grew hgw)
                  have B13 := Lib.hid (B13.out.grew hgw)
                  have B14 := Lib.hid (B14.out.grew hgw)
                  have B16 := Lib.hid (B16.out.grew hgw)
                  have B18 := Lib.hid b18
                  have G3 := Lib.hid (G3.out.trans hgw)
                  have R3 := Lib.hid (R3.out.grew hgw)
                  clear hgw b18
                  obtain ⟨wp, hwp⟩ : ∃ wp : World, wp = wc := ⟨_, rfl⟩
                  subst hwp
                  generalize decide (0 < wh) = b1 at *
                  generalize decide (0 < nu) = b2 at *
                  go_upto_region 10 with fail
                  obtain ⟨pB8, qB80, qB81, qB82⟩ := cells3 B8.out
                  obtain ⟨pB9, qB90, qB91, qB92⟩ := cells3 B9.out
                  obtain ⟨pB14, qB140, qB141, qB142⟩ := cells3 B14.out
                  obtain ⟨pB16, qB160, qB161, qB162⟩ := cells3 B16.out
                  obtain ⟨pB18, qB180, qB181, qB182⟩ := cells3 B18.out
                  obtain ⟨pB12, qB120, qB121, qB122, qB123, qB124, qB125, qB126, qB127⟩ := cells8 B12.out
                  obtain ⟨pB13, qB130, qB131, qB132, qB133, qB134, qB135, qB136, qB137⟩ := cells8 B13.out
                  go_cut [104] (fun v wx => v = .bool false ∧ Grew wp wx)
                  case first =>
                    go_wp2_with (first | (go_at_call 35; refine (HNU.out _).mono ?_; rintro e w' ⟨rfl, y1, rfl⟩))
                    go_meet
                    exact ⟨rfl, by (show Grew _ _; repeat (first | exact Grew.refl _ | refine Grew.alloc ?_ _ | refine Grew.drew ?_ | refine Grew.more ?_ _))⟩
                  case rest =>
                    obtain ⟨rfl, hgw⟩ := hcut
                    clear pB8 qB80 qB81 qB82 pB9 qB90 qB91 qB92 pB14 qB140 qB141 qB142 pB16 qB160 qB161 qB162 pB18 qB180 qB181 qB182 pB12 qB120 qB121 qB122 qB123 qB124 qB125 qB126 qB127 pB13 qB130 qB131 qB132 qB133 qB134 qB135 qB136 qB137
                    have B5 := Lib.hid (B5.out.grew hgw)
                    have B12 := Lib.hid (B12.out.grew hgw)
                    have B13 := Lib.hid (B13.out.grew hgw)
                    have G3 := Lib.hid (G3.out.trans hgw)
                    have R3 := Lib.hid (R3.out.grew hgw)
                    clear hgw B8 B9 B14 B16 B18
                    go_upto_region 12 with fail
                    obtain ⟨pB12, qB120, qB121, qB122, qB123, qB124, qB125, qB126, qB127⟩ := cells8 B12.out
                    obtain ⟨pB13, qB130, qB131, qB132, qB133, qB134, qB135, qB136, qB137⟩ := cells8 B13.out
                    obtain ⟨pB5, qB50, qB51, qB52⟩ := cells3 B5.out
                    refine wp_region_more (by kernel_rfl) (by kernel_rfl) ?_
                    repeat (go_big_quiet_step ((first | (go_at_call 36; exact (HHA.out _).within) | (go_at_call 37; exact (HRH.out _ _ _ (by exact R3.out.grew ⟨_, rfl⟩)).within) | (go_at_call 38; exact (HCO.out _).within) | (go_at_call 29; exact (live19_any _).within))))
                    refine wpQuiet_nil ?_
                    rintro _ ⟨z, rfl⟩
                    go_wp2
                    go_ret
                    exact ⟨rfl, G3.out.trans ⟨_, rfl⟩⟩
end Go.Proofs.Ythngafgblehpoaa
