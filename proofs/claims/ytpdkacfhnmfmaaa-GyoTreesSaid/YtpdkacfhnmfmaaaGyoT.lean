/- Layer 22: all trees are tried, by the document; the law of all trees. Condition: numbers that an int holds. -/
import Derived.Test.YtpdkacfhnmfmaaaGyoMath2
namespace Go.Proofs.Ytpdkacfhnmfmaaa
open Go.RowKit
attribute [local go_sem] more_cell more_frozen more_more more_setCell more_of_drew more_of_drewN lt_more le_more past_cell past_cell2 past_frozen past_frozen2 past_setCell past_setCell2 mid_cell mid_frozen mid_setCell
attribute [local go_sem ↓] Go.wp_at_zero Go.wp_at_succ

theorem pow_small {n q : Nat} (hn : n ≤ 5) (hq : q ≤ 4) : n ^ q ≤ 625 :=
  Nat.le_trans (Nat.pow_le_pow_left hn q) (Nat.le_trans (Nat.pow_le_pow_right (by decide) hq) (by decide))
theorem psOf_len {n c : Nat} (hn : 0 < n) : (psOf n c).length = n := by
  unfold psOf
  rw [List.length_cons, digs_len]
  omega
def ExA (w : World) (n : Nat) (x4 x5 : Value) (wr : World) : Prop := ∃ q : Nat, q + 1 ≤ n ∧ x4 = .int .i64 ((n ^ q : Nat) : Int) ∧ x5 = .int .i64 ((q + 1 : Nat) : Int) ∧ Grew w wr
def ExC (w : World) (h : List (List Int)) (all : Nat) (x : Value) (wr : World) : Prop := ∃ c : Nat, c ≤ all ∧ x = .int .i64 c ∧ Grew w wr ∧ ∀ c', c' < c → ¬ JoinsP h (psOf h.length c')
def ExD (w : World) (n : Nat) (full : List Int) (x7 x8 x9 : Value) (wr : World) : Prop := ∃ (q c : Nat) (A : Option Addr) (k : Nat) (done : List Int), q + 1 ≤ n ∧ c ≤ 625 ∧ x7 = .slice A (q + 1) k ∧ x8 = .int .i64 c ∧ x9 = .int .i64 ((q + 1 : Nat) : Int) ∧ Grew w wr ∧ done.length = q + 1 ∧
  wr.ownsRow w.heap.size 3 1 (.slice A (q + 1) k) (q + 1) (iV done) ∧ done ++ digs n (n - 1 - q) c = full
set_option maxHeartbeats 2000000 in
set_option maxRecDepth 100000 in
theorem rexists22_any (h : List (List Int)) (n : Nat) (hn : h.length = n) (hn5 : n ≤ 5) (hel : ∀ e ∈ h, e.length ≤ 30) (A : Option Addr) (k : Nat) (t : Bool) (ht : t = true ↔ (n = 0 ∨ ∃ c, c < n ^ (n - 1) ∧ JoinsP h (psOf n c))) (w : World) (ra : GridI (PRow w) A h) :
    Gives Try.prog 10 #[.slice A n k] w (.bool t) := by
  unfold Gives
  by_cases h0 : n = 0
  · obtain rfl : t = true := ht.2 (Or.inl h0)
    have e0 : ((n : Int) == 0) = true := by simp [h0]
    clear ht ra hel hn
    go_enter Try.func10, Try.ntmps10
    go_wp2
    go_ret
    exact ⟨rfl, by (show Grew _ _; repeat (first | exact Grew.refl _ | refine Grew.alloc ?_ _ | refine Grew.drew ?_ | refine Grew.more ?_ _))⟩
  have e0 : ((n : Int) == 0) = false := by rw [beq_eq_false_iff_ne]; omega
  have HN := Lib.hid hn
  have HJ := Lib.hid (fun (ps : List Int) (hp : ps.length = n) (b : Bool) (hb : b = true ↔ JoinsP h ps) B kb l' (hl' : l' = n) W (hW : Grew w W) (hr : Row W B (iV ps)) => show Gives Try.prog 12 #[.slice A n k, .slice B l' kb] W (.bool b) by
    have := rjoins22_any h ps (by omega) (by omega) hel A B k kb b hb W (ra.grew hW) hr
    rw [hp, hn] at this
    rw [hl']
    exact this)
  have HNo : Hid ((∀ c, c < n ^ (n - 1) → ¬ JoinsP h (psOf n c)) → t = false) := Lib.hid fun hno => by
    cases t
    · rfl
    · rcases ht.1 rfl with h1 | ⟨c, h1, h2⟩
      · exact absurd h1 h0
      · exact absurd h2 (hno c h1)
  have HYes : Hid (∀ c, c < n ^ (n - 1) → JoinsP h (psOf n c) → t = true) := Lib.hid fun c h1 h2 => ht.2 (Or.inr ⟨c, h1, h2⟩)
  clear ht ra hel hn
  go_enter Try.func10, Try.ntmps10
  go_wp2
  clear e0
  go_loopw [4, 5] (fun x4 x5 wr => ExA w n x4 x5 wr) (fun _ x _ => n - (intOf x).toNat)
  case atStart => exact ⟨0, by omega, by simp, rfl, Grew.refl w⟩
  case round =>
    obtain ⟨q, hq, rfl, rfl, hg⟩ := hrel
    have HG := Lib.hid hg
    clear hg
    have hps := pow_small (q := q) hn5 (by omega)
    by_cases h1 : q + 1 < n
    · have hps2 := pow_small (q := q + 1) hn5 (by omega)
      obtain ⟨b, hb⟩ : ∃ b, n ^ (q + 1) = b := ⟨_, rfl⟩
      have hmul : IntKind.i64.wrap (((n ^ q : Nat) : Int) * (n : Int)) = (b : Int) := by
        have e : n ^ q * n = b := hb
        rw [← Int.natCast_mul, e]
        exact IntWalk.i64_in _ (by omega)
      have HB := Lib.hid hb
      clear hb hps2
      generalize n ^ q = a at *
      go_wp2
      exact ⟨⟨q + 1, by omega, by rw [HB.out], by go_num, HG.out⟩, by simp only [intOf]; omega⟩
    · obtain rfl : n = q + 1 := by omega
      rw [Nat.add_sub_cancel] at HNo HYes
      generalize hall : (q + 1) ^ q = all at *
      clear hall
      generalize hnn : q + 1 = n at *
      have hn0 : ¬ n = 0 := by omega
      go_wp2
      go_loopw [6] (fun x wx => ExC w h all x wx) (fun x _ => all - (intOf x).toNat)
      case atStart => exact ⟨0, Nat.zero_le _, rfl, HG.out, fun c' hc => by omega⟩
      case round =>
        obtain ⟨c, hc, rfl, hg, hno⟩ := hrel
        have HG := Lib.hid hg
        have HNs := Lib.hid hno
        clear hg hno
        by_cases h2 : c < all
        · obtain ⟨full, hfull⟩ : ∃ full, psOf n c = full := ⟨_, rfl⟩
          have hfl : full.length = n := by rw [← hfull]; exact psOf_len (by omega)
          have H0 : Hid ([(-1 : Int)] ++ digs n (n - 1 - 0) c = full) := Lib.hid hfull
          have HFu := Lib.hid hfull
          have HFl := Lib.hid hfl
          clear hfull hfl
          go_upto_region 13 with fail
          have HO1 : Hid ((wr.alloc (.cells #[.int .i64 (-1)] 3)).ownsRow wr.heap.size 3 1 (.slice (some ⟨wr.heap.size, 0, none⟩) 1 1) 1 (iV [(-1)])) := Lib.hid (own_one _ _ _ _ _ rfl (Nat.le_refl _))
          have HD0 : Hid (ExD wr n full (.slice (some ⟨wr.heap.size, 0, none⟩) 1 1) (.int .i64 c) (.int .i64 ((0 + 1 : Nat) : Int)) (wr.alloc (.cells #[.int .i64 (-1)] 3))) := Lib.hid ⟨0, c, _, 1, [(-1)], by omega, by omega, rfl, rfl, rfl, (Grew.refl _).alloc _, rfl, HO1.out, H0.out⟩
          clear HO1 H0
          generalize wr.alloc (.cells #[.int .i64 (-1)] 3) = w3 at *
          go_wp2
          go_loopw [7, 8, 9] (fun x7 x8 x9 wx => ExD wr n full x7 x8 x9 wx) (fun _ _ x _ => n - (intOf x).toNat)
          case atStart => exact HD0.out
          case round =>
            obtain ⟨m, d, B, kb, done, hm, hd, rfl, rfl, rfl, hg3, hdl, ho, hdg⟩ := hrel
            have HG3 := Lib.hid hg3
            have HO := Lib.hid ho
            have HDg := Lib.hid hdg
            have HDl := Lib.hid hdl
            clear hg3 ho hdg hdl HD0
            have hws := HG3.out.size
            by_cases h3 : m + 1 < n
            · have hdiv : d / n ≤ 625 := Nat.le_trans (Nat.div_le_self d n) hd
              have hmod : d % n ≤ 625 := Nat.le_trans (Nat.mod_le d n) hd
              have hq1 : IntKind.i64.wrap ((d : Int).tdiv (n : Int)) = ((d / n : Nat) : Int) := by
                rw [← Int.ofNat_tdiv]
                generalize d / n = z at hdiv ⊢
                exact IntWalk.i64_in _ (by omega)
              have hq2 : IntKind.i64.wrap ((d : Int).tmod (n : Int)) = ((d % n : Nat) : Int) := by
                rw [← Int.ofNat_tmod]
                generalize d % n = z at hmod ⊢
                exact IntWalk.i64_in _ (by omega)
              have hq3 : (d : Int) % (n : Int) = ((d % n : Nat) : Int) := (Int.natCast_emod d n).symm
              have hq4 : (d : Int) / (n : Int) = ((d / n : Nat) : Int) := (Int.natCast_ediv d n).symm
              have hn1 : ((n : Int) == 0) = false := by rw [beq_eq_false_iff_ne]; omega
              have HDg2 : Hid ((done ++ [((d % n : Nat) : Int)]) ++ digs n (n - 1 - (m + 1)) (d / n) = full) := Lib.hid (by
                have := HDg.out
                rw [show n - 1 - m = (n - 1 - (m + 1)) + 1 by omega] at this
                rw [← this, List.append_assoc]
                rfl)
              generalize d / n = dq at *
              generalize d % n = dr at *
              go_wp2_with (at_builtin; refine wpList_appB rfl _ _ 25 3 1 rfl _ (.int .i64 0) 8 Try.underlying25 infoI rfl (by decide) (by decide) _ (m + 1) (iV done) rfl (own_alloc HO.out _) _ 1 1 [.int .i64 dr] rfl rfl (row_one _ _ _ _ rfl) (by simp [Value.oneCell']) (by omega) (by rw [World.size_alloc]; omega) ?_; intro A9 c9 w9 ho9 hg9; have HG9 := Lib.hid ((HG3.out.alloc (.cells #[.int .i64 dr] 3)).grown hg9 (own_base HO.out)); have HO9 := Lib.hid ho9; clear ho9 hg9)
              exact ⟨⟨m + 1, dq, A9, c9, done ++ [(dr : Int)], by omega, hdiv, rfl, rfl, by go_num, HG9.out, by rw [List.length_append, HDl.out]; rfl, by rw [← iV_snoc]; exact HO9.out, HDg2.out⟩, by simp only [intOf]; omega⟩
            · have hmn : m + 1 = n := by omega
              have hmi : ((n : Nat) : Int) ≤ ((m + 1 : Nat) : Int) := by omega
              have HEq : Hid (done = full) := Lib.hid (by
                have := HDg.out
                rw [show n - 1 - m = 0 by omega] at this
                rw [← this]
                show done = done ++ []
                simp)
              have HRow : Hid (Row wr B (iV full)) := Lib.hid (by rw [← HEq.out]; exact own_rowI HO.out)
              have HGw := Lib.hid (HG.out.trans HG3.out)
              clear HDg HO HEq HDl
              by_cases hJ : JoinsP h full
              · obtain rfl : t = true := HYes.out c h2 (by rw [HFu.out]; exact hJ)
                have HJ1 := Lib.hid (HJ.out full HFl.out true ⟨fun _ => hJ, fun _ => rfl⟩ B kb (m + 1) hmn wr HGw.out HRow.out)
                clear hJ HJ HYes HNo hmn
                go_wp2_with (go_at_call 12; (with_reducible refine HJ1.out.grows.mono ?_); rintro e w8 ⟨rfl, hg8⟩; have HG8 := Lib.hid (HGw.out.trans hg8); clear hg8)
                go_ret
                exact ⟨rfl, HG8.out⟩
              · have HJ1 := Lib.hid (HJ.out full HFl.out false ⟨fun e => (by cases e), fun e => absurd e hJ⟩ B kb (m + 1) hmn wr HGw.out HRow.out)
                have HN2 : Hid (∀ c', c' < c + 1 → ¬ JoinsP h (psOf h.length c')) := Lib.hid fun c' hc' => by
                  by_cases ec : c' = c
                  · subst ec
                    rw [HN.out, HFu.out]
                    exact hJ
                  · exact HNs.out c' (by omega)
                clear hJ HJ HYes HNo HNs hmn
                go_wp2_with (go_at_call 12; (with_reducible refine HJ1.out.grows.mono ?_); rintro e w8 ⟨rfl, hg8⟩; have HG8 := Lib.hid (HGw.out.trans hg8); clear hg8)
                exact ⟨⟨c + 1, by omega, by go_num, HG8.out, HN2.out⟩, by simp only [intOf]; omega⟩
        · obtain rfl : c = all := by omega
          obtain rfl := HNo.out (fun c' hc' => by have := HNs.out c' hc'; rwa [HN.out] at this)
          clear HNs HNo HYes HJ
          go_wp2
          go_ret
          exact ⟨rfl, HG.out⟩
set_option maxHeartbeats 2000000 in
set_option maxRecDepth 100000 in
theorem gyoTrees_walk (h : List (List Int)) (A : Option Addr) (k : Nat) (hl : h.length ≤ 1000000000000000) (hw : wfG h) (w : World) (ra : GridI (PRow w) A h) :
    Gives Try.prog 3 #[.slice A h.length k] w (.bool true) := by
  have RA := Lib.hid ra
  have HW := Lib.hid hw
  have HMu := Lib.hid (rmuch21_any h A k hl w ra)
  clear ra hw hl
  unfold Gives
  by_cases h5 : 5 < h.length
  · have e1 : decide ((5 : Int) < (h.length : Int)) = true := decide_eq_true (by omega)
    have h5' : (5 : Int) < h.length := by omega
    go_enter Try.func3, Try.ntmps3
    go_wp2_with fail
    refine HMu.out.mono ?_
    rintro e w1 ⟨t, rfl, hg1, _⟩
    have HG1 := Lib.hid hg1
    clear hg1 HMu
    cases t
    all_goals
      go_wp2_with (go_at_call 8; (with_reducible refine (live22_any _).grows.mono ?_); rintro e w5 ⟨rfl, hg5⟩; have HG5 := Lib.hid (HG1.out.trans hg5); clear hg5)
      go_ret
      exact ⟨rfl, HG5.out⟩
  have e1 : decide ((5 : Int) < (h.length : Int)) = false := decide_eq_false (by omega)
  have h5' : (h.length : Int) ≤ 5 := by omega
  go_enter Try.func3, Try.ntmps3
  go_wp2_with fail
  refine HMu.out.mono ?_
  rintro e w1 ⟨t, rfl, hg1, h1⟩
  have HG1 := Lib.hid hg1
  have HGood := Lib.hid h1
  clear hg1 h1 HMu
  cases t
  rotate_left
  · go_wp2_with (go_at_call 8; (with_reducible refine (live22_any _).grows.mono ?_); rintro e w5 ⟨rfl, hg5⟩; have HG5 := Lib.hid (HG1.out.trans hg5); clear hg5)
    go_ret
    exact ⟨rfl, HG5.out⟩
  obtain ⟨h12, hel⟩ := HGood.out rfl
  have hn1 : h.length ≤ 1000 := Nat.le_trans h12 (by decide)
  have HAc := Lib.hid (fun W (hW : Grew w W) => acyclic22_any h h.length rfl hn1 HW.out hel A k W (RA.out.grew hW))
  have hll := leftI_len h
  have hle := earsS_le h h.length
  have hex := exists_iff h
  clear HGood
  by_cases hac : h.length - (earsS h h.length).1.length ≤ 1
  · rw [decide_eq_true (by omega)] at HAc
    have HPar := Lib.hid (fun W (hW : Grew w W) => parents22_yes h h.length rfl hn1 HW.out hel hac A k W (RA.out.grew hW))
    have HEx := Lib.hid (fun W (hW : Grew w W) => rexists22_any h h.length rfl (by omega) hel A k true ⟨fun _ => hex.1 (by omega), fun _ => rfl⟩ W (RA.out.grew hW))
    have R := ears_ranked hac
    have hpl : (parE h.length (earsS h h.length).1).length = h.length := parE_len _ _
    have HJP : Hid (JoinsP h (parE h.length (earsS h h.length).1)) := Lib.hid ⟨hpl, R.tree, fun a b c ha hb hc hp => by
      rw [withinI_iff]
      intro v hv
      rw [sharedI_mem] at hv
      exact R.joins v _ a b ha (by omega) (Nat.le_refl _) c hc hp hv.1 hv.2⟩
    have HJ : Hid (∀ W B kb, Grew w W → Row W B (iV (parE h.length (earsS h h.length).1)) → Gives Try.prog 12 #[.slice A h.length k, .slice B h.length kb] W (.bool true)) := Lib.hid fun W B kb hW hr => by
      have := rjoins22_any h (parE h.length (earsS h h.length).1) hn1 (by rw [hpl]; exact hn1) hel A B k kb true ⟨fun _ => HJP.out, fun _ => rfl⟩ W (RA.out.grew hW) hr
      rwa [hpl] at this
    clear R hpl HJP hac hle hll hex
    generalize parE h.length (earsS h h.length).1 = pl at *
    go_wp2_with (first | (go_at_call 9; (with_reducible refine (HPar.out _ HG1.out).mono ?_); rintro e w2 ⟨B2, c2, rfl, hg2, hr2⟩; have HG2 := Lib.hid (HG1.out.trans hg2); have HR2 := Lib.hid hr2; clear hg2 hr2) | (go_at_call 10; (with_reducible refine (HEx.out _ HG2.out).grows.mono ?_); rintro e w6 ⟨rfl, hg6⟩; have HG6 := Lib.hid (HG2.out.trans hg6); have HR6 := Lib.hid (HR2.out.grew hg6); clear hg6) | (go_at_call 11; (with_reducible refine (HAc.out _ HG6.out).grows.mono ?_); rintro e w3 ⟨rfl, hg3⟩; have HG3 := Lib.hid (HG6.out.trans hg3); have HR3 := Lib.hid (HR6.out.grew hg3); clear hg3) | (go_at_call 12; (with_reducible refine (HJ.out _ _ _ HG3.out HR3.out).grows.mono ?_); rintro e w4 ⟨rfl, hg4⟩; have HG4 := Lib.hid (HG3.out.trans hg4); clear hg4) | (go_at_call 8; (with_reducible refine (live22_any _).grows.mono ?_); rintro e w5 ⟨rfl, hg5⟩; have HG5 := Lib.hid (HG4.out.trans hg5); clear hg5))
    go_ret
    exact ⟨rfl, HG5.out⟩
  · rw [decide_eq_false (by omega)] at HAc
    have HPar := Lib.hid (fun W (hW : Grew w W) => parents22_no h h.length rfl hn1 HW.out hel (by omega) A k W (RA.out.grew hW))
    have HEx := Lib.hid (fun W (hW : Grew w W) => rexists22_any h h.length rfl (by omega) hel A k false ⟨fun e => (by cases e), fun e => (by have := hex.2 e; omega)⟩ W (RA.out.grew hW))
    clear hac hle hll hex
    go_wp2_with (first | (go_at_call 9; (with_reducible refine (HPar.out _ HG1.out).grows.mono ?_); rintro e w2 ⟨rfl, hg2⟩; have HG2 := Lib.hid (HG1.out.trans hg2); clear hg2) | (go_at_call 10; (with_reducible refine (HEx.out _ HG2.out).grows.mono ?_); rintro e w6 ⟨rfl, hg6⟩; have HG6 := Lib.hid (HG2.out.trans hg6); clear hg6) | (go_at_call 11; (with_reducible refine (HAc.out _ HG6.out).grows.mono ?_); rintro e w3 ⟨rfl, hg3⟩; have HG3 := Lib.hid (HG6.out.trans hg3); clear hg3) | (go_at_call 8; (with_reducible refine (live22_any _).grows.mono ?_); rintro e w5 ⟨rfl, hg5⟩; have HG5 := Lib.hid (HG3.out.trans hg5); clear hg5))
    go_ret
    exact ⟨rfl, HG5.out⟩
end Go.Proofs.Ytpdkacfhnmfmaaa
