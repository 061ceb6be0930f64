/- Layer 22: the law of ears. Condition: numbers that an int holds. -/
import Derived.Test.YtfdjnhnchibejaaEar5
namespace Go.Proofs.Ytfdjnhnchibejaa
open Go.RowKit
attribute [local go_sem] more_cell more_frozen more_more more_setCell more_of_drew more_of_drewN lt_more le_more past_cell past_cell2 past_frozen past_frozen2 past_setCell past_setCell2 mid_cell mid_frozen mid_setCell
attribute [local go_sem ↓] Go.wp_at_zero Go.wp_at_succ

theorem rdw_bS {H : Type} {enc : TypeId × Value → H} {W : World} : RdW enc Try.prog W 4 1 (fun (x : Bool) cs => cs = [.bool x]) := rdw_of (rd_bool Try.underlying4 (by kernel_rfl))
theorem bools_row {w : World} {A : Option Addr} {l : List Bool} {css : List (List Value)} (h : ListR (fun (x : Bool) cs => cs = [.bool x]) 1 l css) (hr : Row w A css.flatten) : Row w A (bL l) := by
  have e : css.flatten = bL l := by
    obtain ⟨h1, h2⟩ := h
    clear hr
    induction css generalizing l with
    | nil => 
      have : l = [] := List.eq_nil_of_length_eq_zero (by simpa using h1.symm)
      subst this
      rfl
    | cons a t ih =>
      match l with
      | [] => simp at h1
      | x :: l =>
        have h0 := (h2 0 x a rfl rfl).1
        rw [h0, List.flatten_cons, ih (by simpa using h1) fun i y cs hy hc => h2 (i + 1) y cs (by simpa using hy) (by simpa using hc)]
        rfl
  rw [← e]
  exact hr
theorem rdw_bools {H : Type} {enc : TypeId × Value → H} {W : World} : RdW enc Try.prog W 96 1 (fun (l : List Bool) cs => ∃ A c, cs = [.slice A l.length c] ∧ l.length ≤ 1000000000000000 ∧ Row W A (bL l) ∧ True) :=
  rdw_map (rdw_slice Try.underlying96 (by kernel_rfl) (by decide) (bytes := 1) (by kernel_rfl) rdw_bS) fun l cs ⟨A, c, css, h1, h2, _, h5, h3, h4⟩ => ⟨A, c, h1, by unfold reachBytes at h5; omega, bools_row h3 h4, trivial⟩
theorem earP_lt {h : List (List Int)} {l : List Bool} {i p : Nat} (hp : earP h l i = some p) : p < h.length := (earP_inv hp).2.2.1
def CmAt (w : World) (n : Nat) (x : Value) (wr : World) : Prop := ∃ j : Nat, j ≤ n ∧ x = .int .i64 j ∧ Grew w wr
theorem row_ears {w : World} {A : Option Addr} {E : List (Nat × Nat)} (h : Row w A (eV E)) {i : Nat} (hi : i < E.length) : ∃ b o, A = some ⟨b, o, none⟩ ∧ b < w.heap.size ∧ w.cell? ⟨b, o + i * 2, none⟩ = some (.int .i64 E[i].1) ∧ w.cell? ⟨b, o + i * 2 + 1, none⟩ = some (.int .i64 E[i].2) := by
  rcases h with h | ⟨b, o, hA, hb, hc⟩
  · have := eV_len E
    rw [h] at this
    simp at this
    omega
  · exact ⟨b, o, hA, hb, hc _ _ (eV_at hi).1, by rw [Nat.add_assoc]; exact hc _ _ (eV_at hi).2⟩
set_option maxHeartbeats 4000000 in
set_option maxRecDepth 100000 in
theorem gyoEars_walk (h : List (List Int)) (l : List Bool) (i : Int) (A B : Option Addr) (k c : Nat) (hl : h.length ≤ 1000000000000000) (hw : wfG h) (w : World) (ra : GridI (PRow w) A h) (rb : Row w B (bL l)) :
    Gives Try.prog 10 #[.slice A h.length k, .slice B l.length c, .int .i64 i] w (.bool true) := by
  have RA := Lib.hid ra
  have RB := Lib.hid rb
  have HW := Lib.hid hw
  have HMu := Lib.hid (rmuch21_any h A k hl w ra)
  clear ra rb hw hl
  unfold Gives
  by_cases h30 : 30 < l.length
  · have e1 : decide ((30 : Int) < (l.length : Int)) = true := decide_eq_true (by omega)
    have h30' : (30 : Int) < l.length := by omega
    go_enter Try.func10, Try.ntmps10
    go_wp2_with fail
    refine HMu.out.mono ?_
    rintro e w1 ⟨t, rfl, hg1, _⟩
    have HG1 := Lib.hid hg1
    clear hg1 HMu
    cases t
    all_goals
      go_wp2_with (go_at_call 72; (with_reducible refine (live22_any _).grows.mono ?_); rintro e w5 ⟨rfl, hg5⟩; have HG5 := Lib.hid (HG1.out.trans hg5); clear hg5)
      go_ret
      exact ⟨rfl, HG5.out⟩
  have e1 : decide ((30 : Int) < (l.length : Int)) = false := decide_eq_false (by omega)
  have h30' : (l.length : Int) ≤ 30 := by omega
  go_enter Try.func10, Try.ntmps10
  go_wp2_with fail
  refine HMu.out.mono ?_
  rintro e w1 ⟨t, rfl, hg1, h1⟩
  have HG1 := Lib.hid hg1
  have HGood := Lib.hid h1
  clear hg1 h1 HMu
  cases t
  rotate_left
  · go_wp2_with (go_at_call 72; (with_reducible refine (live22_any _).grows.mono ?_); rintro e w5 ⟨rfl, hg5⟩; have HG5 := Lib.hid (HG1.out.trans hg5); clear hg5)
    go_ret
    exact ⟨rfl, HG5.out⟩
  obtain ⟨h12, hel⟩ := HGood.out rfl
  have hn1 : h.length ≤ 1000 := Nat.le_trans h12 (by decide)
  have HEar := Lib.hid (fun W (hW : Grew w W) => ear22_any h h.length rfl hn1 HW.out hel l A B k c i W (RA.out.grew hW) (RB.out.grew hW))
  have HREar := Lib.hid (fun W (hW : Grew w W) => rear22_any h h.length rfl hn1 hel l A B k c i W (RA.out.grew hW) (RB.out.grew hW))
  have HEars := Lib.hid (fun W (hW : Grew w W) => ears22_any h h.length rfl hn1 HW.out hel A k W (RA.out.grew hW))
  have HREars := Lib.hid (fun W (hW : Grew w W) => rears22_any h h.length rfl hn1 hel A k W (RA.out.grew hW))
  have HLeft := Lib.hid (fun W (hW : Grew w W) => left22_any h h.length rfl hn1 HW.out hel A k W (RA.out.grew hW))
  have HAc := Lib.hid (fun W (hW : Grew w W) => acyclic22_any h h.length rfl hn1 HW.out hel A k W (RA.out.grew hW))
  have hElen := earsS_le h h.length
  have hLlen := earsS_len h h.length
  have HLI : Hid (leftL (earsS h h.length).2 h.length = leftI h) := Lib.hid rfl
  have hLI : (leftI h).length ≤ h.length := leftL_le _ _
  unfold RemF at HREars
  generalize (earsS h h.length).1 = E at *
  generalize (earsS h h.length).2 = L at *
  generalize leftI h = li at *
  generalize earR h l i = o at *
  obtain ⟨p0, ok, hT⟩ : ∃ (p0 : Int) (ok : Bool), earT o = .tuple #[.int .i64 p0, .bool ok] := ⟨_, _, rfl⟩
  rw [hT] at HEar HREar
  have n1 : (p0 != p0) = false := by simp
  have n2 : (ok != ok) = false := by simp
  have n3 : ((E.length : Int) != (E.length : Int)) = false := by simp
  clear hT HGood
  go_upto_region 7 with (first | (go_at_call 73; (with_reducible refine (HEar.out _ HG1.out).grows.mono ?_); rintro e w2 ⟨rfl, hg2⟩; have HG2 := Lib.hid (HG1.out.trans hg2); clear hg2) | (go_at_call 74; (with_reducible refine (HREar.out _ HG2.out).grows.mono ?_); rintro e w3 ⟨rfl, hg3⟩; have HG3 := Lib.hid (HG2.out.trans hg3); clear hg3) | (go_at_call 75; (with_reducible refine (HEars.out _ HG3.out).mono ?_); rintro e w4 ⟨X4, k4, rfl, hg4, hr4⟩; have HG4 := Lib.hid (HG3.out.trans hg4); have HX4 := Lib.hid hr4; clear hg4 hr4) | (go_at_call 76; (with_reducible refine (HREars.out _ HG4.out).mono ?_); rintro e w5 ⟨X5, k5, Y5, c5, rfl, hg5, hr5, hs5⟩; have HG5 := Lib.hid (HG4.out.trans hg5); have HX5 := Lib.hid hr5; have HY5 := Lib.hid hs5; have HX45 := Lib.hid (HX4.out.grew hg5); clear hg5 hr5 hs5))
  clear HX4 HEar HREar HEars HREars
  go_wp2
  clear n1 n2 n3
  go_loopw [14] (fun x wr => CmAt w5 E.length x wr) (fun x _ => E.length - (intOf x).toNat)
  case atStart => exact ⟨0, Nat.zero_le _, rfl, Grew.refl _⟩
  case round =>
    obtain ⟨j, hj, rfl, hg⟩ := hrel
    have HG := Lib.hid hg
    clear hg
    by_cases h1 : j < E.length
    · obtain ⟨b1, o1, rfl, hb1, c1, c2⟩ := row_ears (HX45.out.grew HG.out) h1
      obtain ⟨b2, o2, rfl, hb2, d1, d2⟩ := row_ears (HX5.out.grew HG.out) h1
      generalize E[j] = e at *
      obtain ⟨ea, ep⟩ := e
      simp only at c1 c2 d1 d2
      go_wp2
      go_quiet (fail)
      go_wp2
      exact ⟨⟨j + 1, by omega, by go_num, HG.out.drewN _⟩, by simp only [intOf]; omega⟩
    · obtain rfl : j = E.length := by omega
      have HY := Lib.hid (HY5.out.grew HG.out)
      have HGr := Lib.hid (HG5.out.trans HG.out)
      clear HX45 HX5 HY5 HG
      go_wp2
      go_loopw [15, 16] (fun v x wx => LeAt wr wr L h.length v x wx) (fun _ x _ => h.length - (intOf x).toNat)
      case atStart => exact ⟨0, none, 0, Nat.zero_le _, rfl, rfl, Grew.refl _, own_none _ _ _ _⟩
      case round =>
        obtain ⟨q, A2, c2, hq, rfl, rfl, hg, ho⟩ := hrel
        have HG := Lib.hid hg
        have HO := Lib.hid ho
        clear hg ho
        have hll := leftL_le L q
        by_cases h2 : q < h.length
        · obtain ⟨b, o, rfl, hb, hc⟩ := boolrow_at (HY.out.grew HG.out) (show q < L.length by rw [hLlen]; exact h2)
          rcases ht : thB L q with _ | _
          · rw [ht] at hc
            have HT := Lib.hid (leftL_out ht)
            clear ht HLI
            generalize hoo : leftL L q = oo at *
            clear hoo
            go_wp2
            exact ⟨⟨q + 1, A2, c2, by omega, by rw [HT.out], by go_num, HG.out, by rw [HT.out]; exact HO.out⟩, by simp only [intOf]; omega⟩
          · rw [ht] at hc
            have HT := Lib.hid (leftL_in ht)
            clear ht HLI
            generalize hoo : leftL L q = oo at *
            clear hoo
            go_wp2_with (at_builtin; refine wpList_appB rfl _ _ 38 3 1 rfl _ (.int .i64 0) 8 Try.underlying38 infoI rfl (by decide) (by decide) _ oo.length (iV oo) rfl (own_alloc HO.out _) _ 1 1 [.int .i64 q] rfl rfl (row_one _ _ _ _ rfl) (by simp [Value.oneCell']) (by omega) (by rw [World.size_alloc]; have := HG.out.size; omega) ?_; intro A9 c9 w9 ho9 hg9; have HG9 := Lib.hid ((HG.out.alloc (.cells #[.int .i64 q] 3)).grown hg9 (own_base HO.out)); have HO9 := Lib.hid ho9; clear ho9 hg9)
            exact ⟨⟨q + 1, A9, c9, by omega, by rw [HT.out, List.length_append]; rfl, by go_num, HG9.out, by rw [HT.out, List.length_append, ← iV_snoc]; exact HO9.out⟩, by simp only [intOf]; omega⟩
        · obtain rfl : q = h.length := by omega
          rw [HLI.out] at HO ⊢
          have HRl := Lib.hid (own_rowI HO.out)
          have HGa := Lib.hid (HGr.out.trans HG.out)
          have HS : Hid (∀ W B' j' B2 j2, Row W B' (iV li) → Row W B2 (iV li) → Gives Try.prog 56 #[.slice B' li.length j', .slice B2 li.length j2] W (.bool true)) := Lib.hid fun W B' j' B2 j2 hB h2 => by
            have := samelist_any li li B' B2 j' j2 W hB h2 (by omega) (by omega)
            rwa [decide_eq_true rfl] at this
          have eD : decide ((li.length : Int) ≤ 1) = decide (li.length ≤ 1) := by rw [decide_eq_decide]; omega
          rw [← eD] at HAc
          obtain ⟨tt, htt⟩ : ∃ tt, decide ((li.length : Int) ≤ 1) = tt := ⟨_, rfl⟩
          rw [htt] at HAc
          have e5 : (tt == tt) = true := by simp
          clear eD HO HG HLI
          go_wp2_with (first | (go_at_call 77; (with_reducible refine (HLeft.out _ HGa.out).mono ?_); rintro e w6 ⟨X6, k6, rfl, hg6, ho6⟩; have HG6 := Lib.hid (HGa.out.trans hg6); have HX6 := Lib.hid (own_rowI ho6); have HRm := Lib.hid (HRl.out.grew hg6); clear hg6 ho6) | (go_at_call 56; (with_reducible refine (HS.out _ _ _ _ _ HX6.out HRm.out).grows.mono ?_); rintro e w7 ⟨rfl, hg7⟩; have HG7 := Lib.hid (HG6.out.trans hg7); clear hg7) | (go_at_call 78; (with_reducible refine (HAc.out _ HG7.out).grows.mono ?_); rintro e w8 ⟨rfl, hg8⟩; have HG8 := Lib.hid (HG7.out.trans hg8); clear hg8) | (go_at_call 72; (with_reducible refine (live22_any _).grows.mono ?_); rintro e w9 ⟨rfl, hg9⟩; have HG9 := Lib.hid (HG8.out.trans hg9); clear hg9))
          go_ret
          exact ⟨rfl, HG9.out⟩
end Go.Proofs.Ytfdjnhnchibejaa
