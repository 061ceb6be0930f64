/- Layer 18: the law of sizes, and of the zero filter. No condition. -/
import Derived.Test.YthngafgblehpoaaBloom4
namespace Go.Proofs.Ythngafgblehpoaa
open Go.RowKit
attribute [local go_sem] more_cell more_frozen more_more more_setCell more_of_drew more_of_drewN lt_more le_more past_cell past_cell2 past_frozen past_frozen2 past_setCell past_setCell2 mid_cell mid_frozen mid_setCell
attribute [local go_sem ↓] Go.wp_at_zero Go.wp_at_succ

def NewF (w : World) (n k : Nat) (e : Ending) (w' : World) : Prop := ∃ g c, e = .returned (.agg #[.slice (some ⟨g, 0, none⟩) n c, .int .i64 k]) ∧ (∃ x, w' = more w x) ∧ URow w' (some ⟨g, 0, none⟩) (List.replicate n 0)
theorem bnew_to (a b : Int) (n k : Nat) (hn : clampN a 4096 = n) (hk : clampN b 5 = k) (w : World) : Calls Try.prog 41 #[.int .i64 a, .int .i64 b] w (NewF w n k) := by
  subst hn hk
  refine (bnew_any a b w).mono ?_
  rintro e w' ⟨g, c, he, hG, hU⟩
  rw [List.length_replicate] at he
  exact ⟨g, c, he, hG, hU⟩
def WordsF (w : World) (ws : List Nat) (n : Nat) (e : Ending) (w' : World) : Prop := ∃ g c, e = .returned (.slice (some ⟨g, 0, none⟩) n c) ∧ (∃ x, w' = more w x) ∧ URow w' (some ⟨g, 0, none⟩) ws
theorem words_to (ws : List Nat) (k : Int) (n g c : Nat) (hn : ws.length = n) (h0 : 0 < n) (hl : n ≤ 1000000) (w : World) (hr : URow w (some ⟨g, 0, none⟩) ws) :
    Calls Try.prog 40 #[.agg #[.slice (some ⟨g, 0, none⟩) n c, .int .i64 k]] w (WordsF w ws n) := by
  refine (words_any ws k n g c hn h0 hl w hr).mono ?_
  rintro e w' ⟨g2, c2, he, ho, hG⟩
  subst hn
  exact ⟨g2, c2, he, hG, urow_own ho⟩
set_option maxHeartbeats 1000000 in
set_option maxRecDepth 100000 in
theorem bloomSizes_walk (rows per m b : Int) (hm : 0 ≤ m) (hm' : m < 256) (hb : 0 ≤ b) (hb' : b < 256) (h : Int) (w : World) :
    Gives Try.prog 10 #[.int .i64 rows, .int .i64 per, .int .u8 m, .int .u8 b, .int .u64 h] w (.bool true) := by
  unfold Gives
  obtain ⟨n, hn⟩ : ∃ n, clampN (m % 20) 4096 = n := ⟨_, rfl⟩
  obtain ⟨k, hk⟩ : ∃ k, clampN (b % 7) 5 = k := ⟨_, rfl⟩
  have hn1 : 1 ≤ n ∧ n ≤ 19 := by subst hn; unfold clampN; (repeat' split) <;> omega
  have hk1 := clamp_le (b % 7) 5 (by decide)
  rw [hk] at hk1
  obtain ⟨n1, n2⟩ := hn1
  obtain ⟨k2, k1⟩ := hk1
  have HN1 : Hid (∀ W, Calls Try.prog 41 #[.int .i64 (m % 20), .int .i64 (b % 7)] W (NewF W n k)) := Lib.hid fun W => bnew_to _ _ _ _ hn hk W
  have HN2 : Hid (∀ W, Calls Try.prog 41 #[.int .i64 ((n : Int) + 1), .int .i64 k] W (NewF W (n + 1) k)) := Lib.hid fun W => bnew_to _ _ _ _ (by unfold clampN; (repeat' split) <;> omega) (by unfold clampN; (repeat' split) <;> omega) W
  obtain ⟨q, hq⟩ : ∃ q, k % 5 = q := ⟨_, rfl⟩
  obtain ⟨q1, hq1⟩ : ∃ q1, q + 1 = q1 := ⟨_, rfl⟩
  have hqk : k ≠ q1 := by omega
  have HN3 : Hid (∀ W, Calls Try.prog 41 #[.int .i64 n, .int .i64 q1] W (NewF W n q1)) := Lib.hid fun W => bnew_to _ _ _ _ (by unfold clampN; (repeat' split) <;> omega) (by unfold clampN; (repeat' split) <;> omega) W
  have HE3 : Hid ((k : Int).tmod 5 = (q : Int)) := Lib.hid (by rw [Int.tmod_eq_emod_of_nonneg (by omega)]; omega)
  have HE4 : Hid (IntKind.i64.wrap ((q : Int) + 1) = (q1 : Int)) := Lib.hid (by rw [IntWalk.i64_in _ (by omega)]; omega)
  have HE5 : Hid (wrap64 ((q : Int) + 1) = (q1 : Int)) := Lib.hid (by rw [IntWalk.wrap64_in _ (by omega)]; omega)
  have HE6 : Hid ((q : Int) + 1 = (q1 : Int)) := Lib.hid (by omega)
  have HE8 : Hid (IntKind.i64.wrap (q1 : Int) = (q1 : Int)) := Lib.hid (IntWalk.i64_in _ (by omega))
  have HE7 : Hid ((k : Int) % 5 = (q : Int)) := Lib.hid (by omega)
  have HQK := Lib.hid hqk
  have hq5 : q < 5 := by omega
  clear hq hq1 hqk
  clear hn hk
  go_enter Try.func10, Try.ntmps10
  go_upto_region 2 with fail
  go_cut [12] (fun p wx => ∃ g12 g c, p = .pointer (some ⟨g12, 0, none⟩) ∧ Blok wx g12 65 #[.slice (some ⟨g, 0, none⟩) n c, .int .i64 k] ∧ URow wx (some ⟨g, 0, none⟩) (List.replicate n 0) ∧ Blok wx w.heap.size 65 #[.slice none 0 0, .int .i64 0] ∧ Grew w wx)
  case first =>
    go_wp2_with fail
    refine (HN1.out _).mono ?_
    rintro e w1 ⟨g, c, rfl, ⟨x, rfl⟩, hU⟩
    have HU := Lib.hid hU
    clear hU
    go_wp2_with fail
    go_meet
    exact ⟨_, g, c, rfl, Blok.new _ _ _ _ (by simp), HU.out.grew ((Grew.refl _).alloc _), ((Blok.new w _ _ _ rfl).more x).alloc _, by (show Grew _ _; repeat (first | exact Grew.refl _ | refine Grew.alloc ?_ _ | refine Grew.drew ?_ | refine Grew.more ?_ _))⟩
  case rest =>
    obtain ⟨g12, g, c, rfl, hB, hU, hZ, hG⟩ := hcut
    have HB := Lib.hid hB
    have HU := Lib.hid hU
    have HZ := Lib.hid hZ
    have HG := Lib.hid hG
    obtain ⟨wp, hwp⟩ : ∃ wp : World, wp = wc := ⟨_, rfl⟩
    subst hwp
    have hlt := hB.lt
    have HS : Hid (∀ W, Grew wp W → W.cell? ⟨g12, 0, none⟩ = some (.slice (some ⟨g, 0, none⟩) n c) ∧ W.cell? ⟨g12, 1, none⟩ = some (.int .i64 k)) := Lib.hid fun W hW => ⟨(HB.out.grew hW).cell 0, (HB.out.grew hW).cell 1⟩
    have c0 : wp.cell? ⟨g12, 0, none⟩ = some (.slice (some ⟨g, 0, none⟩) n c) := hB.cell 0
    have c1 : wp.cell? ⟨g12, 1, none⟩ = some (.int .i64 k) := hB.cell 1
    clear hB hU hZ hG
    have HWo : Hid (∀ W, Grew wp W → Calls Try.prog 40 #[.agg #[.slice (some ⟨g, 0, none⟩) n c, .int .i64 k]] W (WordsF W (List.replicate n 0) n)) := Lib.hid fun W hW => words_to _ _ n g c (by simp) (by omega) (by omega) W (HU.out.grew hW)
    have HBi : Hid (∀ W, Calls Try.prog 45 #[.agg #[.slice (some ⟨g, 0, none⟩) n c, .int .i64 k]] W fun e w' => e = .returned (.int .i64 k) ∧ ∃ x, w' = more W x) := Lib.hid fun W => bits_val _ _ _ _ rfl _ _
    have HUn : Hid (∀ B c5 W, Calls Try.prog 50 #[.agg #[.slice (some ⟨g, 0, none⟩) n c, .int .i64 k], .agg #[.slice B (n + 1) c5, .int .i64 k]] W fun e w' => e = .returned (.tuple #[.agg #[.slice none 0 0, .int .i64 0], .int .i64 7]) ∧ ∃ x, w' = more W x) := Lib.hid fun B c5 W => union_err _ _ _ _ _ _ _ _ (by omega) W
    have e1 : IntKind.i64.wrap ((n : Int) + 1) = (n : Int) + 1 := IntWalk.i64_in _ (by omega)
    have e2 : wrap64 ((n : Int) + 1) = (n : Int) + 1 := IntWalk.wrap64_in _ (by omega)
    go_upto_region 3 with fail
    go_cut [14] (fun v wx => v = .int .i64 7 ∧ Grew wp wx)
    case first =>
      go_region_held3 (fun W => W.cell? ⟨g12, 0, none⟩ = some (.slice (some ⟨g, 0, none⟩) n c) ∧ W.cell? ⟨g12, 1, none⟩ = some (.int .i64 k)) (first | go_keep | (refine HS.out _ ?_; repeat (first | exact Grew.refl _ | apply Grew.more | apply Grew.alloc | apply Grew.drew)))
        (first
          | (go_at_call 40; (with_reducible refine (HWo.out _ (by repeat (first | exact Grew.refl _ | apply Grew.more | apply Grew.alloc | apply Grew.drew))).mono ?_); rintro e w' ⟨g3, c3, rfl, ⟨x3, rfl⟩, _⟩)
          | (go_at_call 45; (with_reducible refine (HBi.out _).mono ?_); rintro e w' ⟨rfl, x4, rfl⟩)
          | (go_at_call 41; (with_reducible refine (HN2.out _).mono ?_); rintro e w' ⟨g5, c5, rfl, ⟨x5, rfl⟩, _⟩)
          | (go_at_call 50; (with_reducible refine (HUn.out _ _ _).mono ?_); rintro e w' ⟨rfl, x6, rfl⟩))
      all_goals
        go_wp2_with fail
        go_meet
        exact ⟨rfl, by repeat (first | exact Grew.refl _ | apply Grew.more | apply Grew.alloc | apply Grew.drew)⟩
    case rest =>
      obtain ⟨rfl, hgw⟩ := hcut
      have HB := Lib.hid (HB.out.grew hgw)
      have HU := Lib.hid (HU.out.grew hgw)
      have HZ := Lib.hid (HZ.out.grew hgw)
      have HG := Lib.hid (HG.out.trans hgw)
      clear HUn e1 e2 HN1 HN2 hgw HWo HS c0 c1 hlt
      obtain ⟨wq, hwq⟩ : ∃ wq : World, wq = wc := ⟨_, rfl⟩
      subst hwq
      have hlt := HB.out.lt
      have HS : Hid (∀ W, Grew wq W → W.cell? ⟨g12, 0, none⟩ = some (.slice (some ⟨g, 0, none⟩) n c) ∧ W.cell? ⟨g12, 1, none⟩ = some (.int .i64 k)) := Lib.hid fun W hW => ⟨(HB.out.grew hW).cell 0, (HB.out.grew hW).cell 1⟩
      have c0 : wq.cell? ⟨g12, 0, none⟩ = some (.slice (some ⟨g, 0, none⟩) n c) := HB.out.cell 0
      have c1 : wq.cell? ⟨g12, 1, none⟩ = some (.int .i64 k) := HB.out.cell 1
      have HWo : Hid (∀ W, Grew wq W → Calls Try.prog 40 #[.agg #[.slice (some ⟨g, 0, none⟩) n c, .int .i64 k]] W (WordsF W (List.replicate n 0) n)) := Lib.hid fun W hW => words_to _ _ n g c (by simp) (by omega) (by omega) W (HU.out.grew hW)
      have HUn2 : Hid (∀ B c5 W, Calls Try.prog 50 #[.agg #[.slice (some ⟨g, 0, none⟩) n c, .int .i64 k], .agg #[.slice B n c5, .int .i64 q1]] W fun e w' => e = .returned (.tuple #[.agg #[.slice none 0 0, .int .i64 0], .int .i64 7]) ∧ ∃ x, w' = more W x) := Lib.hid fun B c5 W => union_err _ _ _ _ _ _ _ _ (Or.inr HQK.out) W
      go_upto_region 4 with fail
      go_cut [16] (fun v wx => v = .int .i64 7 ∧ Grew wq wx)
      case first =>
        have e3 := HE3.out
        have e4 := HE4.out
        have e5 := HE5.out
        have e6 := HE6.out
        have e7 := HE7.out
        have e8 := HE8.out
        go_region_held3 (fun W => W.cell? ⟨g12, 0, none⟩ = some (.slice (some ⟨g, 0, none⟩) n c) ∧ W.cell? ⟨g12, 1, none⟩ = some (.int .i64 k)) (first | go_keep | (refine HS.out _ ?_; repeat (first | exact Grew.refl _ | apply Grew.more | apply Grew.alloc | apply Grew.drew)))
          (first
          | (go_at_call 40; (with_reducible refine (HWo.out _ (by repeat (first | exact Grew.refl _ | apply Grew.more | apply Grew.alloc | apply Grew.drew))).mono ?_); rintro e w' ⟨g3, c3, rfl, ⟨x3, rfl⟩, _⟩)
          | (go_at_call 45; (with_reducible refine (HBi.out _).mono ?_); rintro e w' ⟨rfl, x4, rfl⟩)
          | (go_at_call 41; (with_reducible refine (HN3.out _).mono ?_); rintro e w' ⟨g5, c5, rfl, ⟨x5, rfl⟩, _⟩)
          | (go_at_call 50; (with_reducible refine (HUn2.out _ _ _).mono ?_); rintro e w' ⟨rfl, x6, rfl⟩))
        all_goals
          go_wp2_with fail
          go_meet
          exact ⟨rfl, (by repeat (first | exact Grew.refl _ | apply Grew.more | apply Grew.alloc | apply Grew.drew))⟩
      case rest =>
        obtain ⟨rfl, hgw⟩ := hcut
        have HZ := Lib.hid (HZ.out.grew hgw)
        have HG := Lib.hid (HG.out.trans hgw)
        clear hgw HUn2 HWo HS c0 c1 hlt HB HU HN3 HBi
        obtain ⟨wr, hwr⟩ : ∃ wr : World, wr = wc := ⟨_, rfl⟩
        subst hwr
        have hlt := HZ.out.lt
        have HS : Hid (∀ W, Grew wr W → W.cell? ⟨w.heap.size, 0, none⟩ = some (.slice none 0 0) ∧ W.cell? ⟨w.heap.size, 1, none⟩ = some (.int .i64 0)) := Lib.hid fun W hW => ⟨(HZ.out.grew hW).cell 0, (HZ.out.grew hW).cell 1⟩
        have c0 : wr.cell? ⟨w.heap.size, 0, none⟩ = some (.slice none 0 0) := HZ.out.cell 0
        have c1 : wr.cell? ⟨w.heap.size, 1, none⟩ = some (.int .i64 0) := HZ.out.cell 1
        have HHa : Hid (∀ W, Calls Try.prog 48 #[.agg #[.slice none 0 0, .int .i64 0], .int .u64 h] W fun e w' => e = .returned (.bool false) ∧ ∃ x, w' = more W x) := Lib.hid fun W => bhas_zero h W
        have HAd : Hid (∀ A m2 c2 W, Calls Try.prog 43 #[.agg #[.slice none 0 0, .int .i64 0], .slice A m2 c2] W fun e w' => e = .returned (.agg #[.slice none 0 0, .int .i64 0]) ∧ ∃ x, w' = more W x) := Lib.hid fun A m2 c2 W => badd_zero A m2 c2 W
        have HWz : Hid (∀ W, Calls Try.prog 40 #[.agg #[.slice none 0 0, .int .i64 0]] W fun e w' => e = .returned (.slice none 0 0) ∧ ∃ x, w' = more W x) := Lib.hid fun W => words_zero W
        have HOz : Hid (∀ W, Calls Try.prog 47 #[.agg #[.slice none 0 0, .int .i64 0]] W fun e w' => e = .returned (.int .i64 0) ∧ ∃ x, w' = more W x) := Lib.hid fun W => ones_zero W
        have HBz : Hid (∀ W, Calls Try.prog 45 #[.agg #[.slice none 0 0, .int .i64 0]] W fun e w' => e = .returned (.int .i64 0) ∧ ∃ x, w' = more W x) := Lib.hid fun W => bits_val _ _ _ _ rfl _ _
        go_upto_region 5 with fail
        go_cut [17] (fun v wx => v = .bool true ∧ Grew wr wx)
        case first =>
          go_region_held3 (fun W => W.cell? ⟨w.heap.size, 0, none⟩ = some (.slice none 0 0) ∧ W.cell? ⟨w.heap.size, 1, none⟩ = some (.int .i64 0)) (first | go_keep | (refine HS.out _ ?_; repeat (first | exact Grew.refl _ | apply Grew.more | apply Grew.alloc | apply Grew.drew)))
            (first
              | (go_at_call 48; (with_reducible refine (HHa.out _).mono ?_); rintro e w' ⟨rfl, x1, rfl⟩)
              | (go_at_call 43; (with_reducible refine (HAd.out _ _ _ _).mono ?_); rintro e w' ⟨rfl, x2, rfl⟩)
              | (go_at_call 40; (with_reducible refine (HWz.out _).mono ?_); rintro e w' ⟨rfl, x3, rfl⟩)
              | (go_at_call 47; (with_reducible refine (HOz.out _).mono ?_); rintro e w' ⟨rfl, x4, rfl⟩)
              | (go_at_call 45; (with_reducible refine (HBz.out _).mono ?_); rintro e w' ⟨rfl, x5, rfl⟩))
          all_goals
            go_wp2_with fail
            go_meet
            exact ⟨rfl, (by repeat (first | exact Grew.refl _ | apply Grew.more | apply Grew.alloc | apply Grew.drew))⟩
        case rest =>
          obtain ⟨rfl, hgw⟩ := hcut
          have HG := Lib.hid (HG.out.trans hgw)
          clear hgw HHa HAd HWz HOz HBz HS HZ c0 c1 hlt
          obtain ⟨z, hz⟩ : ∃ z : Nat, sizeG 12 1 (mid rows 0 1048576 * mid per 0 1048576) = z := ⟨_, rfl⟩
          have HS1 : Hid (∀ W, Calls Try.prog 52 #[.int .i64 rows, .int .i64 per] W fun e w' => e = .returned (.int .i64 z) ∧ w' = W) := Lib.hid fun W => by
            rw [← hz]
            exact size_any rows per W
          have HS2 : Hid (∀ W, Calls Try.prog 53 #[.int .i64 rows, .int .i64 per] W fun e w' => e = .returned (.int .i64 z) ∧ w' = W) := Lib.hid fun W => by
            rw [← hz]
            exact rsize_any rows per W
          clear hz
          go_wp2_with (first
            | (go_at_call 52; (with_reducible refine (HS1.out _).mono ?_); rintro e w' ⟨rfl, rfl⟩)
            | (go_at_call 53; (with_reducible refine (HS2.out _).mono ?_); rintro e w' ⟨rfl, rfl⟩)
            | (go_at_call 51; (with_reducible refine (code18_any _ _).mono ?_); rintro e w' ⟨rfl, rfl⟩)
            | (go_at_call 39; refine (live18_any _).mono ?_; rintro e w' ⟨rfl, hl⟩))
          go_ret
          exact ⟨rfl, HG.out.trans hl⟩
end Go.Proofs.Ythngafgblehpoaa
