/- Layer 23: depths by the program and by the document are the same, on a tree that is held. No condition. -/
import Derived.Test.YtpdkacfhnmfmaaaTT

/- Layer 23: children in a tree that is held, by the program and by the document. Condition: no more than a thousand nodes. -/
namespace Go.Proofs.Ytpdkacfhnmfmaaa
open Go.RowKit
attribute [local go_sem] more_cell more_frozen more_more more_setCell more_of_drew more_of_drewN lt_more le_more past_cell past_cell2 past_frozen past_frozen2 past_setCell past_setCell2 mid_cell mid_frozen mid_setCell
attribute [local go_sem ↓] Go.wp_at_zero Go.wp_at_succ

/-- Numbers of nodes that come back in a row of their own. -/
def NatF (w : World) (l : List Nat) (e : Ending) (w' : World) : Prop := ∃ A c, e = .returned (.slice A l.length c) ∧ Grew w w' ∧ TRow w.heap.size w' 3 A (nL l)
def chS (p : List Int) (i : Int) (j : Nat) : List Nat := (List.range j).filter fun t => p.getD t 0 == i
theorem chS_out {p : List Int} {i : Int} {j : Nat} (h : (p.getD j 0 == i) = false) : chS p i (j + 1) = chS p i j := by
  unfold chS
  rw [List.range_succ, List.filter_append, List.filter_cons, h]
  simp
theorem chS_in {p : List Int} {i : Int} {j : Nat} (h : (p.getD j 0 == i) = true) : chS p i (j + 1) = chS p i j ++ [j] := by
  unfold chS
  rw [List.range_succ, List.filter_append, List.filter_cons, h]
  simp
theorem chS_len (p : List Int) (i : Int) (j : Nat) : (chS p i j).length ≤ j := Nat.le_trans (List.length_filter_le _ _) (by simp)
def ChAt (w : World) (p : List Int) (i : Int) (v x : Value) (wr : World) : Prop :=
  ∃ (j : Nat) (A : Option Addr) (c : Nat), j ≤ p.length ∧ v = .slice A (chS p i j).length c ∧ x = .int .i64 j ∧ Grew w wr ∧ wr.ownsRow w.heap.size 3 1 (.slice A (chS p i j).length c) (chS p i j).length (nL (chS p i j))
theorem node_any (A : Option Addr) (n k : Nat) (i : Int) (w : World) : Gives Try.prog 45 #[.slice A n k, .int .i64 i] w (.bool (decide (0 ≤ i) && decide (i < n))) := by
  unfold Gives
  by_cases h0 : 0 ≤ i
  · by_cases h1 : i < n
    · have e0 : decide ((0 : Int) ≤ i) = true := decide_eq_true h0
      have e1 : decide (i < (n : Int)) = true := decide_eq_true h1
      rw [e0, e1]
      go_enter Try.func45, Try.ntmps45
      go_wp2
      go_ret
      exact ⟨rfl, by (show Grew _ _; repeat (first | exact Grew.refl _ | refine Grew.alloc ?_ _ | refine Grew.drew ?_ | refine Grew.more ?_ _))⟩
    · have e0 : decide ((0 : Int) ≤ i) = true := decide_eq_true h0
      have e1 : decide (i < (n : Int)) = false := decide_eq_false h1
      have h1' : (n : Int) ≤ i := by omega
      rw [e0, e1]
      clear h1
      go_enter Try.func45, Try.ntmps45
      go_wp2
      go_ret
      exact ⟨rfl, by (show Grew _ _; repeat (first | exact Grew.refl _ | refine Grew.alloc ?_ _ | refine Grew.drew ?_ | refine Grew.more ?_ _))⟩
  · have e0 : decide ((0 : Int) ≤ i) = false := decide_eq_false h0
    have h0' : i < 0 := by omega
    rw [e0]
    clear h0
    go_enter Try.func45, Try.ntmps45
    go_wp2
    go_ret
    exact ⟨rfl, by (show Grew _ _; repeat (first | exact Grew.refl _ | refine Grew.alloc ?_ _ | refine Grew.drew ?_ | refine Grew.more ?_ _))⟩
set_option maxHeartbeats 4000000 in
theorem children_of (A : Option Addr) (n k : Nat) (p : List Int) (hp : p.length ≤ 1000) (A2 : Option Addr) (k2 : Nat) (i : Int) (w : World) (hT : Gives Try.prog 40 #[.slice A n k] w (.slice A2 p.length k2)) (rp : Row w A2 (iV p)) :
    Calls Try.prog 21 #[.slice A n k, .int .i64 i] w (NatF w (if 0 ≤ i ∧ i < p.length then chS p i p.length else [])) := by
  have HT0 := Lib.hid hT
  have RP := Lib.hid rp
  have HNd := Lib.hid (fun W => node_any A2 p.length k2 i W)
  clear hT rp
  by_cases hin : 0 ≤ i ∧ i < p.length
  rotate_left
  · have en : (decide ((0 : Int) ≤ i) && decide (i < (p.length : Int))) = false := by
      by_cases h0 : 0 ≤ i
      · rw [decide_eq_false (show ¬ i < (p.length : Int) by omega), Bool.and_false]
      · rw [decide_eq_false h0, Bool.false_and]
    rw [en] at HNd
    rw [if_neg hin]
    clear en hin
    go_enter Try.func21, Try.ntmps21
    go_wp2_with (first | (go_at_call 40; (with_reducible refine HT0.out.grows.mono ?_); rintro e w6 ⟨rfl, hg6⟩; have HG6 := Lib.hid hg6; clear hg6) | (go_at_call 45; (with_reducible refine (HNd.out _).grows.mono ?_); rintro e w7 ⟨rfl, hg7⟩; have HG7 := Lib.hid (HG6.out.trans hg7); clear hg7))
    have HF : Hid (NatF w [] (.returned (.slice none 0 0)) w7) := Lib.hid ⟨none, 0, rfl, HG7.out, Or.inl rfl⟩
    all_goals first | exact HF.out | (go_ret; exact HF.out)
  have en : (decide ((0 : Int) ≤ i) && decide (i < (p.length : Int))) = true := by rw [decide_eq_true hin.1, decide_eq_true hin.2]; rfl
  rw [en] at HNd
  rw [if_pos hin]
  clear en hin
  go_enter Try.func21, Try.ntmps21
  go_wp2_with (first | (go_at_call 40; (with_reducible refine HT0.out.grows.mono ?_); rintro e w7 ⟨rfl, hg7⟩; have HG7 := Lib.hid hg7; clear hg7) | (go_at_call 45; (with_reducible refine (HNd.out _).grows.mono ?_); rintro e w6 ⟨rfl, hg6⟩; have HG6 := Lib.hid (HG7.out.trans hg6); clear hg6))
  go_loopw [5, 16] (fun v x wr => ChAt w p i v x wr) (fun _ x _ => p.length - (intOf x).toNat)
  case atStart => exact ⟨0, none, 0, Nat.zero_le _, rfl, rfl, HG6.out, own_none _ _ _ _⟩
  case round =>
    obtain ⟨j, A8, c8, hj, rfl, rfl, hg, ho⟩ := hrel
    have HG := Lib.hid hg
    have HO := Lib.hid ho
    clear hg ho HG6
    by_cases h1 : j < p.length
    · obtain ⟨b2, o2, rfl, hb2, hc2⟩ := rowI_at (RP.out.grew HG.out) h1
      have e2 : p.getD j 0 = p[j] := by rw [List.getD_eq_getElem?_getD, List.getElem?_eq_getElem h1]; rfl
      have hll := chS_len p i j
      have HIn := Lib.hid (chS_in (p := p) (i := i) (j := j))
      have HOut := Lib.hid (chS_out (p := p) (i := i) (j := j))
      rw [e2] at HIn HOut
      clear e2
      generalize p[j] = x at *
      generalize hoo : chS p i j = oo at *
      clear hoo
      by_cases hx : x = i
      · have ex : (x == i) = true := by rw [beq_iff_eq]; exact hx
        have HT := Lib.hid (HIn.out ex)
        clear HIn HOut
        go_wp2_with (at_builtin; refine wpList_app rfl _ _ 25 3 rfl w (.int .i64 0) 8 Try.underlying25 infoI rfl (by decide) _ oo.length (nL oo) rfl (own_alloc HO.out _) _ 1 1 [.int .i64 j] rfl rfl (row_one _ _ _ _ rfl) (by simp [Value.oneCell']) (by omega) (HG.out.alloc _) ?_; intro A9 c9 w9 ho9 hr9 hg9 hgb9 hor9; have HG9 := Lib.hid hg9; have HO9 := Lib.hid ho9; clear ho9 hr9 hg9 hgb9 hor9)
        exact ⟨⟨j + 1, A9, c9, by omega, by rw [HT.out, List.length_append]; rfl, by go_num, HG9.out, by rw [HT.out, List.length_append, ← nL_snoc]; exact HO9.out⟩, by simp only [intOf]; omega⟩
      · have ex : (x == i) = false := by rw [beq_eq_false_iff_ne]; exact hx
        have HT := Lib.hid (HOut.out ex)
        clear HIn HOut
        go_wp2
        exact ⟨⟨j + 1, A8, c8, by omega, by rw [HT.out], by go_num, HG.out, by rw [HT.out]; exact HO.out⟩, by simp only [intOf]; omega⟩
    · obtain rfl : j = p.length := by omega
      have HF : Hid (NatF w (chS p i p.length) (.returned (.slice A8 (chS p i p.length).length c8)) wr) := Lib.hid ⟨A8, c8, rfl, HG.out, TRow.own HO.out⟩
      generalize chS p i p.length = oo at *
      go_wp2
      all_goals first | exact HF.out | (go_ret; exact HF.out)
theorem chS_low {p : List Int} {i : Int} (hp : ∀ x ∈ p, -1 ≤ x) (hi : i < -1) (j : Nat) (hj : j ≤ p.length) : chS p i j = [] := by
  induction j with
  | zero => rfl
  | succ j ih =>
    rw [chS_out, ih (by omega)]
    rw [beq_eq_false_iff_ne, List.getD_eq_getElem?_getD, List.getElem?_eq_getElem (by omega)]
    have := hp _ (List.getElem_mem (show j < p.length by omega))
    show p[j] ≠ i
    omega
set_option maxHeartbeats 4000000 in
theorem rchildren_of (A : Option Addr) (n k : Nat) (p : List Int) (hp : p.length ≤ 1000) (A2 : Option Addr) (k2 : Nat) (i : Int) (hi : 0 ≤ i) (w : World) (hT : Gives Try.prog 41 #[.slice A n k] w (.slice A2 p.length k2)) (rp : Row w A2 (iV p)) :
    Calls Try.prog 22 #[.slice A n k, .int .i64 i] w (NatF w (chS p i p.length)) := by
  have HT0 := Lib.hid hT
  have RP := Lib.hid rp
  have ei : decide ((0 : Int) ≤ i) = true := decide_eq_true hi
  clear hT rp
  go_enter Try.func22, Try.ntmps22
  go_wp2_with (go_at_call 41; (with_reducible refine HT0.out.grows.mono ?_); rintro e w6 ⟨rfl, hg6⟩; have HG6 := Lib.hid hg6; clear hg6)
  go_loopw [6, 7] (fun v x wr => ChAt w p i v x wr) (fun _ x _ => p.length - (intOf x).toNat)
  case atStart => exact ⟨0, none, 0, Nat.zero_le _, rfl, rfl, HG6.out, own_none _ _ _ _⟩
  case round =>
    obtain ⟨j, A8, c8, hj, rfl, rfl, hg, ho⟩ := hrel
    have HG := Lib.hid hg
    have HO := Lib.hid ho
    clear hg ho HG6
    by_cases h1 : j < p.length
    · obtain ⟨b2, o2, rfl, hb2, hc2⟩ := rowI_at (RP.out.grew HG.out) h1
      have e2 : p.getD j 0 = p[j] := by rw [List.getD_eq_getElem?_getD, List.getElem?_eq_getElem h1]; rfl
      have hll := chS_len p i j
      have HIn := Lib.hid (chS_in (p := p) (i := i) (j := j))
      have HOut := Lib.hid (chS_out (p := p) (i := i) (j := j))
      rw [e2] at HIn HOut
      clear e2
      generalize p[j] = x at *
      generalize hoo : chS p i j = oo at *
      clear hoo
      by_cases hx : x = i
      · have ex : (x == i) = true := by rw [beq_iff_eq]; exact hx
        have HT := Lib.hid (HIn.out ex)
        clear HIn HOut
        go_wp2_with (at_builtin; refine wpList_app rfl _ _ 25 3 rfl w (.int .i64 0) 8 Try.underlying25 infoI rfl (by decide) _ oo.length (nL oo) rfl (own_alloc HO.out _) _ 1 1 [.int .i64 j] rfl rfl (row_one _ _ _ _ rfl) (by simp [Value.oneCell']) (by omega) (HG.out.alloc _) ?_; intro A9 c9 w9 ho9 hr9 hg9 hgb9 hor9; have HG9 := Lib.hid hg9; have HO9 := Lib.hid ho9; clear ho9 hr9 hg9 hgb9 hor9)
        exact ⟨⟨j + 1, A9, c9, by omega, by rw [HT.out, List.length_append]; rfl, by go_num, HG9.out, by rw [HT.out, List.length_append, ← nL_snoc]; exact HO9.out⟩, by simp only [intOf]; omega⟩
      · have ex : (x == i) = false := by rw [beq_eq_false_iff_ne]; exact hx
        have HT := Lib.hid (HOut.out ex)
        clear HIn HOut
        go_wp2
        exact ⟨⟨j + 1, A8, c8, by omega, by rw [HT.out], by go_num, HG.out, by rw [HT.out]; exact HO.out⟩, by simp only [intOf]; omega⟩
    · obtain rfl : j = p.length := by omega
      have HF : Hid (NatF w (chS p i p.length) (.returned (.slice A8 (chS p i p.length).length c8)) wr) := Lib.hid ⟨A8, c8, rfl, HG.out, TRow.own HO.out⟩
      generalize chS p i p.length = oo at *
      go_wp2
      all_goals first | exact HF.out | (go_ret; exact HF.out)
end Go.Proofs.Ytpdkacfhnmfmaaa

/- Layer 23: trees that are held, their root and depths, by the document. Condition: no more than a thousand nodes. -/
namespace Go.Proofs.Ytpdkacfhnmfmaaa
open Go.RowKit
attribute [local go_sem] more_cell more_frozen more_more more_setCell more_of_drew more_of_drewN lt_more le_more past_cell past_cell2 past_frozen past_frozen2 past_setCell past_setCell2 mid_cell mid_frozen mid_setCell
attribute [local go_sem ↓] Go.wp_at_zero Go.wp_at_succ

theorem rheld_yes (ps : List Int) (hl : ps.length ≤ 1000) (ht : treeB ps = true) (A : Option Addr) (k : Nat) (w : World) (ra : Row w A (iV ps)) :
    Gives Try.prog 41 #[.slice A ps.length k] w (.slice A ps.length k) := by
  have HT := Lib.hid (rtree22_any ps hl A k w ra)
  rw [ht] at HT
  unfold Gives
  go_enter Try.func41, Try.ntmps41
  go_wp2_with (go_at_call 15; (with_reducible refine HT.out.grows.mono ?_); rintro e w6 ⟨rfl, hg6⟩; have HG6 := Lib.hid hg6; clear hg6)
  go_ret
  exact ⟨rfl, HG6.out⟩
theorem rheld_no (ps : List Int) (hl : ps.length ≤ 1000) (ht : treeB ps = false) (A : Option Addr) (k : Nat) (w : World) (ra : Row w A (iV ps)) :
    Gives Try.prog 41 #[.slice A ps.length k] w (.slice none 0 0) := by
  have HT := Lib.hid (rtree22_any ps hl A k w ra)
  rw [ht] at HT
  unfold Gives
  go_enter Try.func41, Try.ntmps41
  go_wp2_with (go_at_call 15; (with_reducible refine HT.out.grows.mono ?_); rintro e w6 ⟨rfl, hg6⟩; have HG6 := Lib.hid hg6; clear hg6)
  go_ret
  exact ⟨rfl, HG6.out⟩
/-- The tree that is held: all, or none. -/
def heldL (b : Bool) (ps : List Int) : List Int := if b then ps else []
theorem rheld_any (ps : List Int) (hl : ps.length ≤ 1000) (A : Option Addr) (k : Nat) (w : World) (ra : Row w A (iV ps)) :
    ∃ A2 k2, (∀ W, Grew w W → Gives Try.prog 41 #[.slice A ps.length k] W (.slice A2 (heldL (treeB ps) ps).length k2)) ∧ Row w A2 (iV (heldL (treeB ps) ps)) := by
  rcases h : treeB ps with _ | _
  · exact ⟨none, 0, fun W hW => rheld_no ps hl h A k W (ra.grew hW), Or.inl rfl⟩
  · exact ⟨A, k, fun W hW => rheld_yes ps hl h A k W (ra.grew hW), ra⟩
def depN (p : List Int) : Nat → Int → Nat
  | 0, _ => 0
  | f + 1, i => if 0 ≤ i ∧ i < p.length then depN p f (p.getD i.toNat 0) + 1 else 0
theorem depN_stop {p : List Int} {i : Int} (h : ¬ (0 ≤ i ∧ i < p.length)) (f : Nat) : depN p f i = 0 := by
  cases f with
  | zero => rfl
  | succ f => unfold depN; rw [if_neg h]
theorem depN_go {p : List Int} {i : Int} (h : 0 ≤ i ∧ i < p.length) (f : Nat) : depN p (f + 1) i = depN p f (p.getD i.toNat 0) + 1 := by
  rw [depN, if_pos h]
def RdAt (w : World) (p : List Int) (i0 : Int) (x1 x6 : Value) (wr : World) : Prop := ∃ (q f : Nat) (i m : Int), f + q = p.length + 1 ∧ m = (q : Int) - 1 ∧ x1 = .int .i64 i ∧ x6 = .int .i64 m ∧ Grew w wr ∧ depN p (p.length + 1) i0 = depN p f i + q
set_option maxHeartbeats 4000000 in
theorem rdepth_of (A : Option Addr) (n k : Nat) (p : List Int) (hp : p.length ≤ 1000) (A2 : Option Addr) (k2 : Nat) (i : Int) (w : World) (hT : Gives Try.prog 41 #[.slice A n k] w (.slice A2 p.length k2)) (rp : Row w A2 (iV p)) :
    Gives Try.prog 24 #[.slice A n k, .int .i64 i] w (.int .i64 ((depN p (p.length + 1) i : Nat) - 1)) := by
  have HT0 := Lib.hid hT
  have RP := Lib.hid rp
  clear hT rp
  unfold Gives
  obtain ⟨fin, hfin⟩ : ∃ fin : Int, ((depN p (p.length + 1) i : Nat) : Int) - 1 = fin := ⟨_, rfl⟩
  have H0 : Hid (∀ W, Grew w W → RdAt w p i (.int .i64 i) (.int .i64 (-1)) W) := Lib.hid fun W hW => ⟨0, p.length + 1, i, -1, rfl, rfl, rfl, rfl, hW, rfl⟩
  have HF := Lib.hid hfin
  rw [hfin]
  clear hfin
  generalize i = i0 at HF H0
  go_enter Try.func24, Try.ntmps24
  go_wp2_with (go_at_call 41; (with_reducible refine HT0.out.grows.mono ?_); rintro e w6 ⟨rfl, hg6⟩; have HG6 := Lib.hid hg6; clear hg6)
  go_loopw [1, 6] (fun x1 x6 wr => RdAt w p i0 x1 x6 wr) (fun _ x6 _ => p.length + 1 - (intOf x6 + 1).toNat)
  case atStart => exact H0.out _ HG6.out
  case round =>
    obtain ⟨q, f, i, m, hf, hm, rfl, rfl, hg, hd⟩ := hrel
    have HG := Lib.hid hg
    have HM := Lib.hid hm
    have HD := Lib.hid hd
    have hm0 : -1 ≤ m := by omega
    have hm1 : m ≤ 1000 := by omega
    have HF2 : Hid (depN p f i = 0 → fin = m) := Lib.hid fun h => by have := HF.out; omega
    clear hg hd hm H0 HG6
    by_cases h0 : 0 ≤ i
    · obtain ⟨z, rfl⟩ : ∃ z : Nat, i = (z : Int) := ⟨i.toNat, by omega⟩
      have e0 : decide ((0 : Int) ≤ (z : Int)) = true := decide_eq_true h0
      by_cases h1 : z < p.length
      · have e1 : decide ((z : Int) < (p.length : Int)) = true := decide_eq_true (by omega)
        obtain ⟨b2, o2, rfl, hb2, hc2⟩ := rowI_at (RP.out.grew HG.out) h1
        cases f with
        | zero =>
          have e2 : decide (m < (p.length : Int)) = false := decide_eq_false (by have := HM.out; omega)
          have hm2 : (p.length : Int) ≤ m := by have := HM.out; omega
          obtain rfl : fin = m := HF2.out rfl
          clear HF2 HD HF
          go_wp2
          go_ret
          exact ⟨rfl, HG.out⟩
        | succ f =>
          have HD2 : Hid (depN p (p.length + 1) i0 = depN p f p[z] + (q + 1)) := Lib.hid (by
            rw [HD.out, depN_go ⟨by omega, by omega⟩, Int.toNat_natCast, List.getD_eq_getElem?_getD, List.getElem?_eq_getElem h1]
            show depN p f p[z] + 1 + q = _
            omega)
          have e2 : decide (m < (p.length : Int)) = true := decide_eq_true (by have := HM.out; omega)
          have hm2 : m < (p.length : Int) := by have := HM.out; omega
          have HM2 : Hid (m + 1 = ((q + 1 : Nat) : Int) - 1) := Lib.hid (by have := HM.out; omega)
          have hq2 : q ≤ p.length := by omega
          have hme : p.length + 1 - (m + 1 + 1).toNat < p.length + 1 - (m + 1).toNat := by have := HM.out; omega
          have HMe := Lib.hid hme
          generalize p[z] = y at *
          clear HF2 HD HF hme
          go_wp2
          exact ⟨⟨q + 1, f, y, m + 1, by omega, HM2.out, rfl, rfl, HG.out, HD2.out⟩, by simp only [intOf]; exact HMe.out⟩
      · have e1 : decide ((z : Int) < (p.length : Int)) = false := decide_eq_false (by omega)
        have h1' : (p.length : Int) ≤ (z : Int) := by omega
        obtain rfl : fin = m := HF2.out (depN_stop (by omega) f)
        clear HF2 HD HF h1
        go_wp2
        go_ret
        exact ⟨rfl, HG.out⟩
    · have e0 : decide ((0 : Int) ≤ i) = false := decide_eq_false h0
      have h0' : i < 0 := by omega
      obtain rfl : fin = m := HF2.out (depN_stop (by omega) f)
      clear HF2 HD HF h0
      go_wp2
      go_ret
      exact ⟨rfl, HG.out⟩
end Go.Proofs.Ytpdkacfhnmfmaaa

/- Layer 23: the root by the document; all nodes by their depths, by the document. Condition: no more than a thousand nodes. -/
namespace Go.Proofs.Ytpdkacfhnmfmaaa
open Go.RowKit
attribute [local go_sem] more_cell more_frozen more_more more_setCell more_of_drew more_of_drewN lt_more le_more past_cell past_cell2 past_frozen past_frozen2 past_setCell past_setCell2 mid_cell mid_frozen mid_setCell
attribute [local go_sem ↓] Go.wp_at_zero Go.wp_at_succ

/-- The first node whose parent is -1, or -1. -/
def rootZ (p : List Int) : Int := match (List.range p.length).find? fun t => p.getD t 0 == -1 with
  | some t => (t : Int)
  | none => -1
theorem rootZ_none {p : List Int} (h : ∀ t, t < p.length → (p.getD t 0 == -1) = false) : rootZ p = -1 := by
  have : (List.range p.length).find? (fun t => p.getD t 0 == -1) = none := by
    rw [List.find?_range_eq_none]
    intro i hi
    simpa using h i hi
  unfold rootZ
  rw [this]
theorem rootZ_some {p : List Int} {j : Nat} (hj : j < p.length) (h1 : (p.getD j 0 == -1) = true) (h : ∀ t, t < j → (p.getD t 0 == -1) = false) : rootZ p = (j : Int) := by
  have : (List.range p.length).find? (fun t => p.getD t 0 == -1) = some j := by
    rw [List.find?_range_eq_some]
    exact ⟨h1, List.mem_range.2 hj, fun i hi => by simpa using h i hi⟩
  unfold rootZ
  rw [this]
def RtAt (w : World) (p : List Int) (x : Value) (wr : World) : Prop := ∃ j : Nat, j ≤ p.length ∧ x = .int .i64 j ∧ Grew w wr ∧ ∀ t, t < j → (p.getD t 0 == -1) = false
theorem rroot_of (A : Option Addr) (n k : Nat) (p : List Int) (hp : p.length ≤ 1000) (A2 : Option Addr) (k2 : Nat) (w : World) (hT : Gives Try.prog 41 #[.slice A n k] w (.slice A2 p.length k2)) (rp : Row w A2 (iV p)) :
    Gives Try.prog 17 #[.slice A n k] w (.int .i64 (rootZ p)) := by
  have HT0 := Lib.hid hT
  have RP := Lib.hid rp
  clear hT rp
  unfold Gives
  obtain ⟨fin, hfin⟩ : ∃ fin : Int, rootZ p = fin := ⟨_, rfl⟩
  have HF := Lib.hid hfin
  rw [hfin]
  clear hfin
  go_enter Try.func17, Try.ntmps17
  go_wp2_with (go_at_call 41; (with_reducible refine HT0.out.grows.mono ?_); rintro e w6 ⟨rfl, hg6⟩; have HG6 := Lib.hid hg6; clear hg6)
  go_loopw [4] (fun x wr => RtAt w p x wr) (fun x _ => p.length - (intOf x).toNat)
  case atStart => exact ⟨0, Nat.zero_le _, rfl, HG6.out, fun t ht => by omega⟩
  case round =>
    obtain ⟨j, hj, rfl, hg, hk⟩ := hrel
    have HG := Lib.hid hg
    have HK := Lib.hid hk
    clear hg hk HG6
    by_cases h1 : j < p.length
    · obtain ⟨b2, o2, rfl, hb2, hc2⟩ := rowI_at (RP.out.grew HG.out) h1
      have e2 : p.getD j 0 = p[j] := by rw [List.getD_eq_getElem?_getD, List.getElem?_eq_getElem h1]; rfl
      have HS := Lib.hid (fun e => rootZ_some (p := p) h1 e HK.out)
      have HN : Hid ((p.getD j 0 == -1) = false → ∀ t, t < j + 1 → (p.getD t 0 == -1) = false) := Lib.hid fun h t ht => by
        by_cases e : t = j
        · subst e; exact h
        · exact HK.out t (by omega)
      rw [e2] at HS HN
      clear e2 HK
      generalize p[j] = y at *
      by_cases hy : y = -1
      · obtain rfl : (j : Int) = fin := by rw [← HF.out]; exact (HS.out (by rw [beq_iff_eq]; exact hy)).symm
        have ey : (y == -1) = true := by rw [beq_iff_eq]; exact hy
        clear HF HS HN
        go_wp2
        go_ret
        exact ⟨rfl, HG.out⟩
      · have ey : (y == -1) = false := by rw [beq_eq_false_iff_ne]; exact hy
        have HN1 := Lib.hid (HN.out ey)
        clear HS HN
        go_wp2
        exact ⟨⟨j + 1, by omega, by go_num, HG.out, HN1.out⟩, by simp only [intOf]; omega⟩
    · obtain rfl : j = p.length := by omega
      obtain rfl : -1 = fin := by rw [← HF.out]; exact (rootZ_none HK.out).symm
      clear HF HK
      go_wp2
      go_ret
      exact ⟨rfl, HG.out⟩
end Go.Proofs.Ytpdkacfhnmfmaaa

/- Layer 23: all nodes by their depths, by the document. Condition: no more than thirty nodes. -/
namespace Go.Proofs.Ytpdkacfhnmfmaaa
open Go.RowKit
attribute [local go_sem] more_cell more_frozen more_more more_setCell more_of_drew more_of_drewN lt_more le_more past_cell past_cell2 past_frozen past_frozen2 past_setCell past_setCell2 mid_cell mid_frozen mid_setCell
attribute [local go_sem ↓] Go.wp_at_zero Go.wp_at_succ

/-- The first j nodes, those at depth d. -/
def lvlS (dep : Int → Int) (d j : Nat) : List Nat := (List.range j).filter fun i => dep (i : Int) == (d : Int)
theorem lvlS_out {dep : Int → Int} {d j : Nat} (h : (dep (j : Int) == (d : Int)) = false) : lvlS dep d (j + 1) = lvlS dep d j := by
  unfold lvlS
  rw [List.range_succ, List.filter_append, List.filter_cons, h]
  simp
theorem lvlS_in {dep : Int → Int} {d j : Nat} (h : (dep (j : Int) == (d : Int)) = true) : lvlS dep d (j + 1) = lvlS dep d j ++ [j] := by
  unfold lvlS
  rw [List.range_succ, List.filter_append, List.filter_cons, h]
  simp
theorem lvlS_len (dep : Int → Int) (d j : Nat) : (lvlS dep d j).length ≤ j := Nat.le_trans (List.length_filter_le _ _) (by simp)
def downS (dep : Int → Int) (n : Nat) : Nat → List Nat
  | 0 => []
  | d + 1 => downS dep n d ++ lvlS dep d n
theorem downS_len (dep : Int → Int) (n d : Nat) : (downS dep n d).length ≤ d * n := by
  induction d with
  | zero => exact Nat.zero_le _
  | succ d ih =>
    rw [downS, List.length_append, Nat.succ_mul]
    have := lvlS_len dep d n
    omega
def DwAt (w : World) (dep : Int → Int) (n : Nat) (v x : Value) (wr : World) : Prop :=
  ∃ (d : Nat) (A : Option Addr) (c : Nat), d ≤ n ∧ v = .slice A (downS dep n d).length c ∧ x = .int .i64 d ∧ Grew w wr ∧ wr.ownsRow w.heap.size 3 1 (.slice A (downS dep n d).length c) (downS dep n d).length (nL (downS dep n d))
def DwIn (w : World) (L : List Nat) (dep : Int → Int) (n d : Nat) (v x : Value) (wr : World) : Prop :=
  ∃ (j : Nat) (A : Option Addr) (c : Nat), j ≤ n ∧ v = .slice A (L ++ lvlS dep d j).length c ∧ x = .int .i64 j ∧ Grew w wr ∧ wr.ownsRow w.heap.size 3 1 (.slice A (L ++ lvlS dep d j).length c) (L ++ lvlS dep d j).length (nL (L ++ lvlS dep d j))
set_option maxHeartbeats 4000000 in
theorem rdown_of (A : Option Addr) (m k : Nat) (n : Nat) (hn : n ≤ 30) (A2 : Option Addr) (k2 : Nat) (dep : Int → Int) (w : World) (hT : Gives Try.prog 41 #[.slice A m k] w (.slice A2 n k2))
    (hD : ∀ (i : Nat) W, i < n → Grew w W → Gives Try.prog 24 #[.slice A2 n k2, .int .i64 i] W (.int .i64 (dep i))) :
    Calls Try.prog 20 #[.slice A m k] w (NatF w (downS dep n n)) := by
  have HT0 := Lib.hid hT
  have HD := Lib.hid hD
  clear hT hD
  go_enter Try.func20, Try.ntmps20
  go_wp2_with (go_at_call 41; (with_reducible refine HT0.out.grows.mono ?_); rintro e w6 ⟨rfl, hg6⟩; have HG6 := Lib.hid hg6; clear hg6)
  go_loopw [4, 5] (fun v x wr => DwAt w dep n v x wr) (fun _ x _ => n - (intOf x).toNat)
  case atStart => exact ⟨0, none, 0, Nat.zero_le _, rfl, rfl, HG6.out, own_none _ _ _ _⟩
  case round =>
    obtain ⟨d, A8, c8, hd, rfl, rfl, hg, ho⟩ := hrel
    have HG := Lib.hid hg
    have HO := Lib.hid ho
    clear hg ho HG6
    by_cases h1 : d < n
    · have HL : Hid ((downS dep n d).length ≤ 900) := Lib.hid (by
        have h2 := downS_len dep n d
        have h3 : d * n ≤ 30 * 30 := Nat.mul_le_mul (by omega) hn
        omega)
      have HNx : Hid (downS dep n (d + 1) = downS dep n d ++ lvlS dep d n) := Lib.hid rfl
      have HI0 : Hid (DwIn w (downS dep n d) dep n d (.slice A8 (downS dep n d).length c8) (.int .i64 (0 : Nat)) wr) := Lib.hid ⟨0, A8, c8, Nat.zero_le _, by simp [lvlS], rfl, HG.out, by simpa [lvlS] using HO.out⟩
      generalize downS dep n d = L at *
      clear HO HG
      go_wp2
      go_loopw [4, 6] (fun v x wx => DwIn w L dep n d v x wx) (fun _ x _ => n - (intOf x).toNat)
      case atStart => exact HI0.out
      case round =>
        obtain ⟨j, A9, c9, hj, rfl, rfl, hg, ho⟩ := hrel
        have HG := Lib.hid hg
        have HO := Lib.hid ho
        clear hg ho HI0
        by_cases h2 : j < n
        · have hll : (L ++ lvlS dep d j).length ≤ 1000 := by
            rw [List.length_append]
            have := lvlS_len dep d j
            have := HL.out
            omega
          have HDj := Lib.hid (fun W hW => HD.out j W h2 hW)
          have HIn := Lib.hid (lvlS_in (dep := dep) (d := d) (j := j))
          have HOut := Lib.hid (lvlS_out (dep := dep) (d := d) (j := j))
          generalize dep (j : Int) = y at *
          by_cases hy : y = (d : Int)
          · have ey : (y == (d : Int)) = true := by rw [beq_iff_eq]; exact hy
            have HT : Hid (L ++ lvlS dep d (j + 1) = (L ++ lvlS dep d j) ++ [j]) := Lib.hid (by rw [HIn.out ey, List.append_assoc])
            generalize L ++ lvlS dep d j = oo at *
            clear HIn HOut
            go_wp2_with (first | (go_at_call 24; (with_reducible refine (HDj.out _ HG.out).grows.mono ?_); rintro e w7 ⟨rfl, hg7⟩; have HG7 := Lib.hid (HG.out.trans hg7); have HO7 := Lib.hid (own_grewU HO.out hg7); clear hg7) | (at_builtin; refine wpList_app rfl _ _ 25 3 rfl w (.int .i64 0) 8 Try.underlying25 infoI rfl (by decide) _ oo.length (nL oo) rfl (own_alloc HO7.out _) _ 1 1 [.int .i64 j] rfl rfl (row_one _ _ _ _ rfl) (by simp [Value.oneCell']) (by omega) (HG7.out.alloc _) ?_; intro A9 c9 w9 ho9 hr9 hg9 hgb9 hor9; have HG9 := Lib.hid hg9; have HO9 := Lib.hid ho9; clear ho9 hr9 hg9 hgb9 hor9))
            exact ⟨⟨j + 1, _, _, by omega, by rw [HT.out, List.length_append]; rfl, by go_num, HG9.out, by rw [HT.out, List.length_append, ← nL_snoc]; exact HO9.out⟩, by simp only [intOf]; omega⟩
          · have ey : (y == (d : Int)) = false := by rw [beq_eq_false_iff_ne]; exact hy
            have HT : Hid (L ++ lvlS dep d (j + 1) = L ++ lvlS dep d j) := Lib.hid (by rw [HOut.out ey])
            generalize hoo : L ++ lvlS dep d j = oo at *
            clear HIn HOut hoo
            go_wp2_with (go_at_call 24; (with_reducible refine (HDj.out _ HG.out).grows.mono ?_); rintro e w7 ⟨rfl, hg7⟩; have HG7 := Lib.hid (HG.out.trans hg7); have HO7 := Lib.hid (own_grewU HO.out hg7); clear hg7)
            exact ⟨⟨j + 1, _, _, by omega, by rw [HT.out], by go_num, HG7.out, by rw [HT.out]; exact HO7.out⟩, by simp only [intOf]; omega⟩
        · obtain rfl : j = n := by omega
          rw [← HNx.out] at HO ⊢
          go_wp2
          exact ⟨⟨d + 1, _, _, by omega, rfl, by go_num, HG.out, HO.out⟩, by simp only [intOf]; omega⟩
    · obtain rfl : d = n := by omega
      have HF : Hid (NatF w (downS dep d d) (.returned (.slice A8 (downS dep d d).length c8)) wr) := Lib.hid ⟨A8, c8, rfl, HG.out, TRow.own HO.out⟩
      generalize downS dep d d = oo at *
      go_wp2
      all_goals first | exact HF.out | (go_ret; exact HF.out)
end Go.Proofs.Ytpdkacfhnmfmaaa

/- Layer 23: a way up, gathered by a closure. Condition: no more than a thousand nodes. -/
namespace Go.Proofs.Ytpdkacfhnmfmaaa
open Go.RowKit
attribute [local go_sem] more_cell more_frozen more_more more_setCell more_of_drew more_of_drewN lt_more le_more past_cell past_cell2 past_frozen past_frozen2 past_setCell past_setCell2 mid_cell mid_frozen mid_setCell
attribute [local go_sem ↓] Go.wp_at_zero Go.wp_at_succ

theorem neSI : (25 : TypeId) ≠ 3 := by decide
/-- Nodes that have been gathered behind a pointer. -/
structure WaS (u : World) (g : Nat) (l : List Nat) (wr : World) : Prop where
  grew : Grew u wr
  low : u.heap.size ≤ g
  own : ∃ A c, Blok wr g 25 #[.slice A l.length c] ∧ wr.ownsRow (g + 1) 3 1 (.slice A l.length c) l.length (nL l)
theorem WaS.on {u wr w' : World} {g : Nat} {l : List Nat} (s : WaS u g l wr) (h : Grew wr w') : WaS u g l w' := by
  obtain ⟨A, c, h1, h2⟩ := s.own
  exact ⟨s.grew.trans h, s.low, A, c, h1.grew h, own_grewU h2 h⟩
theorem way1_any (u : World) (g : Nat) (l : List Nat) (hl : l.length ≤ 1000) (z : Nat) (w : World) (hs : WaS u g l w) :
    Calls Try.prog 61 #[.int .i64 z, .pointer (some ⟨g, 0, none⟩)] w fun e w' => e = .returned (.bool true) ∧ WaS u g (l ++ [z]) w' := by
  obtain ⟨hg, hlow, A, c, hb, ho⟩ := hs
  have HG := Lib.hid hg
  have HB := Lib.hid hb
  have HO := Lib.hid ho
  have HLow := Lib.hid hlow
  have t0 := hb.cell 0
  have tl := hb.lt
  simp only [List.getElem?_toArray, List.getElem?_cons_zero] at t0
  clear hg hb ho hlow
  go_enter Try.func61, Try.ntmps61
  go_upto_region 2 with (at_builtin; refine wpList_appB rfl _ _ 25 3 1 rfl (g + 1) (.int .i64 0) 8 Try.underlying25 infoI rfl (by decide) (by decide) _ l.length (nL l) rfl (own_alloc HO.out _) _ 1 1 [.int .i64 z] rfl rfl (row_one _ _ _ _ rfl) (by simp [Value.oneCell']) (by omega) (by rw [World.size_alloc]; omega) ?_; intro A9 c9 w9 ho9 hg9; have HO9 := Lib.hid ho9; have HG9 := Lib.hid ((HG.out.alloc (.cells #[.int .i64 z] 3)).grown hg9 (fun i hi => by have := own_base HO.out i hi; have := HLow.out; omega)); have HB9 := Lib.hid ((HB.out.alloc (.cells #[.int .i64 z] 3)).other (own_alloc HO.out (.cells #[.int .i64 z] 3)) neSI hg9); clear ho9 hg9; have s0 := HB9.out.cell 0; have s1 := HB9.out.thaw 0; have s2 := HB9.out.lt; simp only [List.getElem?_toArray, List.getElem?_cons_zero] at s0)
  have HF : Hid (WaS u g (l ++ [z]) (w9.setCell ⟨g, 0, none⟩ (.slice A9 (l.length + 1) c9))) := Lib.hid ⟨HG9.out.setCell (a := ⟨g, 0, none⟩) HLow.out _, HLow.out, A9, c9, by
    rw [List.length_append]
    exact HB9.out.set 0 _, by
    rw [List.length_append, ← nL_snoc]
    exact own_aside2 HO9.out (fun q hq => by have := own_base HO9.out q hq; show q ≠ g; omega) _⟩
  go_wp2
  go_ret
  exact ⟨rfl, HF.out⟩
/-- The way up from a node, of at most f nodes. -/
def wayN (p : List Int) : Nat → Int → List Nat
  | 0, _ => []
  | f + 1, i => if 0 ≤ i ∧ i < p.length then i.toNat :: wayN p f (p.getD i.toNat 0) else []
theorem wayN_len (p : List Int) (f : Nat) (i : Int) : (wayN p f i).length = depN p f i := by
  induction f generalizing i with
  | zero => rfl
  | succ f ih =>
    unfold wayN depN
    split
    · rw [List.length_cons, ih]
    · rfl
/-- Where a way up ends. -/
def endN (p : List Int) : Nat → Int → Int
  | 0, i => i
  | f + 1, i => if 0 ≤ i ∧ i < p.length then endN p f (p.getD i.toNat 0) else i
def ClAt (u : World) (g : Nat) (p : List Int) (K : Nat) (i0 : Int) (x1 : Value) (wr : World) : Prop :=
  ∃ (f : Nat) (i : Int) (l : List Nat), x1 = .int .i64 i ∧ f + l.length = K ∧ WaS u g l wr ∧ wayN p K i0 = l ++ wayN p f i ∧ endN p K i0 = endN p f i
theorem endN_stop {p : List Int} {i : Int} (h : ¬ (0 ≤ i ∧ i < p.length)) (f : Nat) : endN p f i = i := by
  cases f with
  | zero => rfl
  | succ f => unfold endN; rw [if_neg h]
theorem wayN_stop {p : List Int} {i : Int} (h : ¬ (0 ≤ i ∧ i < p.length)) (f : Nat) : wayN p f i = [] := by
  cases f with
  | zero => rfl
  | succ f => unfold wayN; rw [if_neg h]
end Go.Proofs.Ytpdkacfhnmfmaaa

/- Layer 23: climbing with a closure that gathers; ways and depths, by the program. Condition: no more than a thousand nodes, and a way that ends. -/
namespace Go.Proofs.Ytpdkacfhnmfmaaa
open Go.RowKit
attribute [local go_sem] more_cell more_frozen more_more more_setCell more_of_drew more_of_drewN lt_more le_more past_cell past_cell2 past_frozen past_frozen2 past_setCell past_setCell2 mid_cell mid_frozen mid_setCell
attribute [local go_sem ↓] Go.wp_at_zero Go.wp_at_succ

/-- How long the slice is that lies behind a pointer. -/
def lenAt (w : World) (g : Nat) : Nat := match w.cell? ⟨g, 0, none⟩ with
  | some (.slice _ n _) => n
  | _ => 0
theorem WaS.len {u wr : World} {g : Nat} {l : List Nat} (s : WaS u g l wr) : lenAt wr g = l.length := by
  obtain ⟨A, c, h1, _⟩ := s.own
  have := h1.cell 0
  simp only [List.getElem?_toArray, List.getElem?_cons_zero] at this
  unfold lenAt
  rw [this]
theorem climbway_any (u : World) (g : Nat) (p : List Int) (A2 : Option Addr) (k2 : Nat) (rp : Row u A2 (iV p)) (K : Nat) (hK : K ≤ 1000) (i0 : Int) (hend : ¬ (0 ≤ endN p K i0 ∧ endN p K i0 < p.length)) (w : World) (hs : WaS u g [] w) :
    Calls Try.prog 36 #[.slice A2 p.length k2, .int .i64 i0, .func (.func 61) #[] #[.pointer (some ⟨g, 0, none⟩)]] w fun e w' => e = .returned (.int .i64 (endN p K i0)) ∧ WaS u g (wayN p K i0) w' := by
  have RP := Lib.hid rp
  have HS0 := Lib.hid hs
  obtain ⟨fin, hfin⟩ : ∃ fin, endN p K i0 = fin := ⟨_, rfl⟩
  obtain ⟨fw, hfw⟩ : ∃ fw, wayN p K i0 = fw := ⟨_, rfl⟩
  have H0 : Hid (ClAt u g p K i0 (.int .i64 i0) w) := Lib.hid ⟨K, i0, [], rfl, by simp, hs, by simp, rfl⟩
  have HEnd := Lib.hid hend
  have HFin := Lib.hid hfin
  have HFw := Lib.hid hfw
  rw [hfin, hfw]
  clear rp hs hend hfin hfw
  generalize hii : i0 = ii at H0 HEnd HFin HFw ⊢
  clear hii
  go_enter Try.func36, Try.ntmps36
  go_wp2
  go_loopw [1] (fun x wr => ClAt u g p K ii x wr) (fun _ wr => K - lenAt wr g)
  case atStart => exact H0.out
  case round =>
    obtain ⟨f, i, l, rfl, hf, hs, hw1, he1⟩ := hrel
    have HS := Lib.hid hs
    have HW := Lib.hid hw1
    have HE := Lib.hid he1
    clear hs hw1 he1 H0
    by_cases h0 : 0 ≤ i
    · obtain ⟨z, rfl⟩ : ∃ z : Nat, i = (z : Int) := ⟨i.toNat, by omega⟩
      have e0 : decide ((0 : Int) ≤ (z : Int)) = true := decide_eq_true h0
      by_cases h1 : z < p.length
      · have e1 : decide ((z : Int) < (p.length : Int)) = true := decide_eq_true (by omega)
        cases f with
        | zero => exact absurd ⟨by rw [HE.out]; exact h0, by rw [HE.out]; show (z : Int) < _; omega⟩ HEnd.out
        | succ f =>
          obtain ⟨b2, o2, rfl, hb2, hc2⟩ := rowI_at (RP.out) h1
          have HC := Lib.hid (fun W (hW : Grew u W) => And.intro (Nat.lt_of_lt_of_le hb2 hW.size) ((hW.cell (a := ⟨b2, o2 + z, none⟩) hb2).trans hc2))
          have HW2 : Hid (wayN p K ii = (l ++ [z]) ++ wayN p f p[z]) := Lib.hid (by
            rw [HW.out, wayN, if_pos ⟨by omega, by omega⟩, Int.toNat_natCast, List.getD_eq_getElem?_getD, List.getElem?_eq_getElem h1, List.append_assoc]
            rfl)
          have HE2 : Hid (endN p K ii = endN p f p[z]) := Lib.hid (by
            rw [HE.out, endN, if_pos ⟨by omega, by omega⟩, Int.toNat_natCast, List.getD_eq_getElem?_getD, List.getElem?_eq_getElem h1]
            rfl)
          have hlen := HS.out.len
          have HLen := Lib.hid hlen
          have HCl := Lib.hid (way1_any u g l (by omega) z _ HS.out)
          generalize p[z] = y at *
          clear HW HE HEnd HFin HFw hb2 hc2 hlen
          go_wp2_with (go_at_call 61; (with_reducible refine HCl.out.mono ?_); rintro e w6 ⟨rfl, hs6⟩; have HS6 := Lib.hid hs6; obtain ⟨hb2, hc2⟩ := HC.out _ hs6.grew; clear hs6)
          exact ⟨⟨f, y, l ++ [z], rfl, by rw [List.length_append]; simp; omega, HS6.out, HW2.out, HE2.out⟩, by rw [HS6.out.len, HLen.out, List.length_append]; simp; omega⟩
      · have e1 : decide ((z : Int) < (p.length : Int)) = false := decide_eq_false (by omega)
        have h1' : (p.length : Int) ≤ (z : Int) := by omega
        obtain rfl : fin = (z : Int) := by rw [← HFin.out, HE.out, endN_stop (by omega)]
        obtain rfl : fw = l := by rw [← HFw.out, HW.out, wayN_stop (by omega), List.append_nil]
        clear h1 HFin HFw HE HW HEnd
        go_wp2
        go_ret
        exact ⟨rfl, HS.out⟩
    · have e0 : decide ((0 : Int) ≤ i) = false := decide_eq_false h0
      have h0' : i < 0 := by omega
      obtain rfl : fin = i := by rw [← HFin.out, HE.out, endN_stop (by omega)]
      obtain rfl : fw = l := by rw [← HFw.out, HW.out, wayN_stop (by omega), List.append_nil]
      clear h0 HFin HFw HE HW HEnd
      go_wp2
      go_ret
      exact ⟨rfl, HS.out⟩
theorem way_any (p : List Int) (A2 : Option Addr) (k2 : Nat) (K : Nat) (hK : K ≤ 1000) (i0 : Int) (hend : ¬ (0 ≤ endN p K i0 ∧ endN p K i0 < p.length)) (w : World) (rp : Row w A2 (iV p)) :
    Calls Try.prog 46 #[.slice A2 p.length k2, .int .i64 i0] w (NatF w (wayN p K i0)) := by
  have HS0 : Hid (WaS w w.heap.size [] (w.alloc (.cells #[.slice none 0 0] 25))) := Lib.hid ⟨(Grew.refl w).alloc _, Nat.le_refl _, none, 0, Blok.new _ _ _ _ rfl, own_none _ _ _ _⟩
  have HCl := Lib.hid (climbway_any w w.heap.size p A2 k2 rp K hK i0 hend _ HS0.out)
  clear rp hend HS0
  generalize wayN p K i0 = fw at *
  generalize endN p K i0 = fe at *
  go_enter Try.func46, Try.ntmps46
  go_wp2_with (go_at_call 36; (with_reducible refine HCl.out.mono ?_); rintro e w6 ⟨rfl, hs6⟩; have HS6 := Lib.hid hs6; obtain ⟨A6, c6, hb6, ho6⟩ := hs6.own; have t0 := hb6.cell 0; have tl := hb6.lt; simp only [List.getElem?_toArray, List.getElem?_cons_zero] at t0; have HF := Lib.hid (show NatF w fw (.returned (.slice A6 fw.length c6)) w6 from ⟨A6, c6, rfl, hs6.grew, (TRow.own ho6).low (by omega)⟩); clear hs6 hb6 ho6)
  all_goals first | exact HF.out | (go_ret; exact HF.out)
end Go.Proofs.Ytpdkacfhnmfmaaa

/- Layer 23: depths by the program, on a tree that is held; the tree that is held, where Right is known. Condition: a way that ends. -/
namespace Go.Proofs.Ytpdkacfhnmfmaaa
open Go.RowKit
attribute [local go_sem] more_cell more_frozen more_more more_setCell more_of_drew more_of_drewN lt_more le_more past_cell past_cell2 past_frozen past_frozen2 past_setCell past_setCell2 mid_cell mid_frozen mid_setCell
attribute [local go_sem ↓] Go.wp_at_zero Go.wp_at_succ

theorem depth_of (A : Option Addr) (n k : Nat) (p : List Int) (A2 : Option Addr) (k2 : Nat) (K : Nat) (hK : K ≤ 1000) (i : Int) (hend : ¬ (0 ≤ endN p K i ∧ endN p K i < p.length)) (w : World) (hT : Gives Try.prog 40 #[.slice A n k] w (.slice A2 p.length k2)) (rp : Row w A2 (iV p)) :
    Gives Try.prog 23 #[.slice A n k, .int .i64 i] w (.int .i64 ((depN p K i : Nat) - 1)) := by
  have HT0 := Lib.hid hT
  have HWay := Lib.hid (fun W (hW : Grew w W) => way_any p A2 k2 K hK i hend W (rp.grew hW))
  have HL := Lib.hid (wayN_len p K i)
  have hKl : (wayN p K i).length ≤ K := by
    rw [wayN_len]
    have : ∀ (f : Nat) (i : Int), depN p f i ≤ f := by
      intro f
      induction f with
      | zero => intro i; exact Nat.le_refl _
      | succ f ih =>
        intro i
        unfold depN
        split
        · have := ih (p.getD i.toNat 0); omega
        · omega
    exact this K i
  rw [← wayN_len]
  generalize wayN p K i = fw at *
  clear hT rp hend HL
  unfold NatF at HWay
  unfold Gives
  go_enter Try.func23, Try.ntmps23
  go_wp2_with (first | (go_at_call 40; (with_reducible refine HT0.out.grows.mono ?_); rintro e w6 ⟨rfl, hg6⟩; have HG6 := Lib.hid hg6; clear hg6) | (go_at_call 46; (with_reducible refine (HWay.out _ HG6.out).mono ?_); rintro e w7 ⟨A7, c7, rfl, hg7, _⟩; have HG7 := Lib.hid (HG6.out.trans hg7); clear hg7))
  go_ret
  exact ⟨rfl, HG7.out⟩
theorem tree_yes (A : Option Addr) (n k : Nat) (w : World) (hR : Gives Try.prog 14 #[.slice A n k] w (.bool true)) : Gives Try.prog 40 #[.slice A n k] w (.slice A n k) := by
  have HT := Lib.hid hR
  clear hR
  unfold Gives
  go_enter Try.func40, Try.ntmps40
  go_wp2_with (go_at_call 14; (with_reducible refine HT.out.grows.mono ?_); rintro e w6 ⟨rfl, hg6⟩; have HG6 := Lib.hid hg6; clear hg6)
  go_ret
  exact ⟨rfl, HG6.out⟩
theorem tree_no (A : Option Addr) (n k : Nat) (w : World) (hR : Gives Try.prog 14 #[.slice A n k] w (.bool false)) : Gives Try.prog 40 #[.slice A n k] w (.slice none 0 0) := by
  have HT := Lib.hid hR
  clear hR
  unfold Gives
  go_enter Try.func40, Try.ntmps40
  go_wp2_with (go_at_call 14; (with_reducible refine HT.out.grows.mono ?_); rintro e w6 ⟨rfl, hg6⟩; have HG6 := Lib.hid hg6; clear hg6)
  go_ret
  exact ⟨rfl, HG6.out⟩
end Go.Proofs.Ytpdkacfhnmfmaaa

/- Layer 23: the closure that marks who was met first. Condition: no more than a thousand nodes. -/
namespace Go.Proofs.Ytpdkacfhnmfmaaa
open Go.RowKit
attribute [local go_sem] more_cell more_frozen more_more more_setCell more_of_drew more_of_drewN lt_more le_more past_cell past_cell2 past_frozen past_frozen2 past_setCell past_setCell2 mid_cell mid_frozen mid_setCell
attribute [local go_sem ↓] Go.wp_at_zero Go.wp_at_succ

/-- Who was met first behind which node (from 1): in a block of its own behind a pointer; and the node at work. -/
structure RiS (u : World) (g b h : Nat) (n : Nat) (first : List Int) (i : Nat) (wr : World) : Prop where
  grew : Grew u wr
  low : u.heap.size ≤ b
  len : first.length = n
  ptr : Blok wr g 25 #[.slice (some ⟨b, 0, none⟩) n n]
  blk : Blok wr b 3 (iV first).toArray
  num : Blok wr h 3 #[.int .i64 i]
  ne1 : b ≠ g
  ne2 : b ≠ h
theorem RiS.on {u wr w' : World} {g b h n i : Nat} {first : List Int} (s : RiS u g b h n first i wr) (k : Grew wr w') : RiS u g b h n first i w' := ⟨s.grew.trans k, s.low, s.len, s.ptr.grew k, s.blk.grew k, s.num.grew k, s.ne1, s.ne2⟩
theorem iV_put2 (l : List Int) (i : Nat) (v : Int) : (iV l).toArray.setIfInBounds i (.int .i64 v) = (iV (l.set i v)).toArray := by
  unfold iV
  apply Array.ext'
  rw [Array.toList_setIfInBounds, List.map_set]
theorem iV_get2 (l : List Int) (z : Nat) (h : z < l.length) : ((iV l).toArray)[z]? = some (.int .i64 l[z]) := by
  unfold iV
  simp [h]
theorem right1_any (u : World) (g b h n : Nat) (first : List Int) (hn : n ≤ 1000) (i : Nat) (hi : i < n) (z : Nat) (hz : z < n) (w : World) (hs : RiS u g b h n first i w) :
    Calls Try.prog 37 #[.int .i64 z, .pointer (some ⟨g, 0, none⟩), .pointer (some ⟨h, 0, none⟩)] w fun e w' =>
      e = .returned (.bool (first.getD z 0 == 0)) ∧ RiS u g b h n (if first.getD z 0 = 0 then first.set z ((i : Int) + 1) else first) i w' := by
  have HS := Lib.hid hs
  have hzl : z < first.length := by rw [hs.len]; exact hz
  have e1 : first.getD z 0 = first[z] := by rw [List.getD_eq_getElem?_getD, List.getElem?_eq_getElem hzl]; rfl
  have t0 := hs.ptr.cell 0
  have t1 := hs.ptr.lt
  have t2 := hs.blk.cell z
  have t3 := hs.blk.lt
  have t4 := hs.num.cell 0
  have t5 := hs.num.lt
  have t6 := hs.blk.thaw z
  rw [iV_get2 first z hzl] at t2
  simp only [List.getElem?_toArray, List.getElem?_cons_zero] at t0 t4
  rw [e1]
  clear hs e1
  by_cases hf : first[z] = 0
  · have HF : Hid (∀ w', w' = w.setCell ⟨b, z, none⟩ (.int .i64 ((i : Int) + 1)) → RiS u g b h n (first.set z ((i : Int) + 1)) i w') := Lib.hid fun w' e => by
      subst e
      have s := HS.out
      refine ⟨s.grew.setCell (a := ⟨b, z, none⟩) s.low _, s.low, by rw [List.length_set]; exact s.len, Blok.far s.ptr (fun e => s.ne1 e.symm) _, ?_, Blok.far s.num (fun e => s.ne2 e.symm) _, s.ne1, s.ne2⟩
      rw [← iV_put2]
      exact s.blk.set z _
    rw [if_pos hf]
    have ef : (first[z] == 0) = true := by rw [beq_iff_eq]; exact hf
    have en : (first[z] != 0) = false := by simp [hf]
    rw [ef]
    generalize first[z] = y at *
    clear HS
    go_enter Try.func37, Try.ntmps37
    go_wp2
    go_ret
    exact ⟨rfl, HF.out _ rfl⟩
  · rw [if_neg hf]
    have ef : (first[z] == 0) = false := by rw [beq_eq_false_iff_ne]; exact hf
    have en : (first[z] != 0) = true := by simp [hf]
    rw [ef]
    generalize first[z] = y at *
    go_enter Try.func37, Try.ntmps37
    go_wp2
    go_ret
    exact ⟨rfl, HS.out⟩
end Go.Proofs.Ytpdkacfhnmfmaaa

/- Layer 23: climbing until one is met that was met before. Condition: no more than a thousand nodes. -/
namespace Go.Proofs.Ytpdkacfhnmfmaaa
open Go.RowKit
attribute [local go_sem] more_cell more_frozen more_more more_setCell more_of_drew more_of_drewN lt_more le_more past_cell past_cell2 past_frozen past_frozen2 past_setCell past_setCell2 mid_cell mid_frozen mid_setCell
attribute [local go_sem ↓] Go.wp_at_zero Go.wp_at_succ

/-- How many have not been met. -/
def zerosL (first : List Int) : Nat := first.countP fun x => x == 0
theorem zerosL_set {first : List Int} {z : Nat} (hz : z < first.length) (h0 : first[z] = 0) {v : Int} (hv : v ≠ 0) : zerosL (first.set z v) + 1 = zerosL first := by
  have hpos : 0 < first.countP fun x => x == 0 := List.countP_pos_iff.2 ⟨first[z], List.getElem_mem hz, by rw [h0]; rfl⟩
  have hs := List.countP_set (p := fun x : Int => x == 0) (a := v) hz
  have e1 : (first[z] == 0) = true := by rw [h0]; rfl
  have e2 : (v == 0) = false := by rw [beq_eq_false_iff_ne]; exact hv
  simp only [e1, e2] at hs
  unfold zerosL
  rw [hs]
  simp
  omega
def zeroAt (c : Option Value) : Int := match c with
  | some (.int _ z) => z
  | _ => 1
def zerosAt (w : World) (b n : Nat) : Nat := zerosL ((List.range n).map fun j => zeroAt (w.cell? ⟨b, j, none⟩))
theorem RiS.zeros {u wr : World} {g b h n i : Nat} {first : List Int} (s : RiS u g b h n first i wr) : zerosAt wr b n = zerosL first := by
  have e : ((List.range n).map fun j => zeroAt (wr.cell? ⟨b, j, none⟩)) = first := by
    apply List.ext_getElem
    · rw [List.length_map, List.length_range, s.len]
    · intro j h1 h2
      rw [List.getElem_map, List.getElem_range, s.blk.cell, iV_get2 first j h2]
      rfl
  unfold zerosAt
  rw [e]
/-- Marks on the way up, until there is no node or one that was met; and where it ends. -/
def markS (p : List Int) (v : Int) : Nat → List Int → Int → List Int × Int
  | 0, first, i => (first, i)
  | f + 1, first, i => if (0 ≤ i ∧ i < p.length) ∧ first.getD i.toNat 0 = 0 then markS p v f (first.set i.toNat v) (p.getD i.toNat 0) else (first, i)
theorem markS_stop {p : List Int} {v : Int} {first : List Int} {i : Int} (h : ¬ ((0 ≤ i ∧ i < p.length) ∧ first.getD i.toNat 0 = 0)) (f : Nat) : markS p v f first i = (first, i) := by
  cases f with
  | zero => rfl
  | succ f => rw [markS, if_neg h]
theorem markS_go {p : List Int} {v : Int} {first : List Int} {i : Int} (h : (0 ≤ i ∧ i < p.length) ∧ first.getD i.toNat 0 = 0) (f : Nat) : markS p v (f + 1) first i = markS p v f (first.set i.toNat v) (p.getD i.toNat 0) := by
  rw [markS, if_pos h]
end Go.Proofs.Ytpdkacfhnmfmaaa

/- Layer 23: climbing with the closure that marks, by the program. Condition: no more than a thousand nodes. -/
namespace Go.Proofs.Ytpdkacfhnmfmaaa
open Go.RowKit
attribute [local go_sem] more_cell more_frozen more_more more_setCell more_of_drew more_of_drewN lt_more le_more past_cell past_cell2 past_frozen past_frozen2 past_setCell past_setCell2 mid_cell mid_frozen mid_setCell
attribute [local go_sem ↓] Go.wp_at_zero Go.wp_at_succ

def MrAt (u : World) (g b h n i : Nat) (p : List Int) (fin : List Int × Int) (x1 : Value) (wr : World) : Prop :=
  ∃ (f : Nat) (first : List Int) (x : Int), x1 = .int .i64 x ∧ zerosL first < f ∧ RiS u g b h n first i wr ∧ fin = markS p ((i : Int) + 1) f first x
theorem climbright_any (u : World) (g b h n : Nat) (hn : n ≤ 1000) (i : Nat) (hi : i < n) (p : List Int) (hpn : p.length = n) (A2 : Option Addr) (k2 : Nat) (rp : Row u A2 (iV p)) (K : Nat) (first0 : List Int) (hK : zerosL first0 < K) (i0 : Int) (w : World) (hs : RiS u g b h n first0 i w) :
    Calls Try.prog 36 #[.slice A2 n k2, .int .i64 i0, .func (.func 37) #[] #[.pointer (some ⟨g, 0, none⟩), .pointer (some ⟨h, 0, none⟩)]] w fun e w' => e = .returned (.int .i64 (markS p ((i : Int) + 1) K first0 i0).2) ∧ RiS u g b h n (markS p ((i : Int) + 1) K first0 i0).1 i w' := by
  have RP := Lib.hid rp
  obtain ⟨fin, hfin⟩ : ∃ fin, markS p ((i : Int) + 1) K first0 i0 = fin := ⟨_, rfl⟩
  have H0 : Hid (MrAt u g b h n i p fin (.int .i64 i0) w) := Lib.hid ⟨K, first0, i0, rfl, hK, hs, hfin.symm⟩
  rw [hfin]
  obtain ⟨fi, fe⟩ := fin
  have HPn := Lib.hid hpn
  clear rp hs hK hfin hpn
  show Calls _ _ _ _ fun e w' => e = .returned (.int .i64 fe) ∧ RiS u g b h n fi i w'
  go_enter Try.func36, Try.ntmps36
  go_wp2
  go_loopw [1] (fun x wr => MrAt u g b h n i p (fi, fe) x wr) (fun _ wr => zerosAt wr b n)
  case atStart => exact H0.out
  case round =>
    obtain ⟨f, first, x, rfl, hf, hs, hfin⟩ := hrel
    have HS := Lib.hid hs
    have HF := Lib.hid hfin
    have HZ := Lib.hid hs.zeros
    have HLn := Lib.hid hs.len
    clear hs hfin H0
    by_cases h0 : 0 ≤ x
    · obtain ⟨z, rfl⟩ : ∃ z : Nat, x = (z : Int) := ⟨x.toNat, by omega⟩
      have e0 : decide ((0 : Int) ≤ (z : Int)) = true := decide_eq_true h0
      by_cases h1 : z < n
      · have e1 : decide ((z : Int) < (n : Int)) = true := decide_eq_true (by omega)
        have hzl : z < first.length := by rw [HLn.out]; exact h1
        have hzp : z < p.length := by rw [HPn.out]; exact h1
        have eg : first.getD z 0 = first[z] := by rw [List.getD_eq_getElem?_getD, List.getElem?_eq_getElem hzl]; rfl
        have HC := Lib.hid (right1_any u g b h n first hn i hi z h1 _ HS.out)
        by_cases hm : first.getD z 0 = 0
        · rw [if_pos hm, hm] at HC
          have hcond : ((0 : Int) ≤ (z : Int) ∧ (z : Int) < p.length) ∧ first.getD (z : Int).toNat 0 = 0 := ⟨⟨h0, by omega⟩, by rw [Int.toNat_natCast]; exact hm⟩
          cases f with
          | zero => exact absurd hf (Nat.not_lt_zero _)
          | succ f =>
            obtain ⟨b2, o2, rfl, hb2, hc2⟩ := rowI_at RP.out hzp
            have HR := Lib.hid (fun W (hW : Grew u W) => And.intro (Nat.lt_of_lt_of_le hb2 hW.size) ((hW.cell (a := ⟨b2, o2 + z, none⟩) hb2).trans hc2))
            have hzz := zerosL_set (v := (i : Int) + 1) hzl (by rw [← eg]; exact hm) (by omega)
            have HZZ := Lib.hid hzz
            have HF2 : Hid ((fi, fe) = markS p ((i : Int) + 1) f (first.set z ((i : Int) + 1)) p[z]) := Lib.hid (by
              rw [HF.out, markS_go hcond, Int.toNat_natCast]
              congr 1
              rw [List.getD_eq_getElem?_getD, List.getElem?_eq_getElem hzp]
              rfl)
            have hfl : zerosL (first.set z ((i : Int) + 1)) < f := by omega
            have HFl := Lib.hid hfl
            have ebt : ((0 : Int) == 0) = true := rfl
            rw [ebt] at HC
            generalize p[z] = y at *
            clear HF hb2 hc2 hzz hfl hcond eg hm ebt
            go_wp2_with (go_at_call 37; (with_reducible refine HC.out.mono ?_); rintro e w6 ⟨rfl, hs6⟩; have HS6 := Lib.hid hs6; obtain ⟨hb2, hc2⟩ := HR.out _ hs6.grew; clear hs6)
            exact ⟨⟨f, _, y, rfl, HFl.out, HS6.out, HF2.out⟩, by rw [HS6.out.zeros, HZ.out]; have := HZZ.out; omega⟩
        · rw [if_neg hm] at HC
          have ebf : (first.getD z 0 == 0) = false := by rw [beq_eq_false_iff_ne]; exact hm
          rw [ebf] at HC
          have HF2 : Hid ((fi, fe) = (first, (z : Int))) := Lib.hid (by
            rw [HF.out, markS_stop]
            rintro ⟨_, hh⟩
            rw [Int.toNat_natCast] at hh
            exact hm hh)
          obtain ⟨rfl, rfl⟩ : fi = first ∧ fe = (z : Int) := ⟨congrArg Prod.fst HF2.out, congrArg Prod.snd HF2.out⟩
          clear HF HF2 hm ebf eg
          go_wp2_with (go_at_call 37; (with_reducible refine HC.out.mono ?_); rintro e w6 ⟨rfl, hs6⟩; have HS6 := Lib.hid hs6; clear hs6)
          go_ret
          exact ⟨rfl, HS6.out⟩
      · have e1 : decide ((z : Int) < (n : Int)) = false := decide_eq_false (by omega)
        have h1' : (n : Int) ≤ (z : Int) := by omega
        have HF2 : Hid ((fi, fe) = (first, (z : Int))) := Lib.hid (by
          rw [HF.out, markS_stop]
          rintro ⟨⟨_, hh⟩, _⟩
          rw [HPn.out] at hh
          omega)
        obtain ⟨rfl, rfl⟩ : fi = first ∧ fe = (z : Int) := ⟨congrArg Prod.fst HF2.out, congrArg Prod.snd HF2.out⟩
        clear HF HF2 h1
        go_wp2
        go_ret
        exact ⟨rfl, HS.out⟩
    · have e0 : decide ((0 : Int) ≤ x) = false := decide_eq_false h0
      have h0' : x < 0 := by omega
      have HF2 : Hid ((fi, fe) = (first, x)) := Lib.hid (by
        rw [HF.out, markS_stop]
        rintro ⟨⟨hh, _⟩, _⟩
        omega)
      obtain ⟨rfl, rfl⟩ : fi = first ∧ fe = x := ⟨congrArg Prod.fst HF2.out, congrArg Prod.snd HF2.out⟩
      clear HF HF2 h0
      go_wp2
      go_ret
      exact ⟨rfl, HS.out⟩
end Go.Proofs.Ytpdkacfhnmfmaaa

/- Layer 23: children of no node, by the document. Condition: no more than a thousand nodes. -/
namespace Go.Proofs.Ytpdkacfhnmfmaaa
open Go.RowKit
attribute [local go_sem] more_cell more_frozen more_more more_setCell more_of_drew more_of_drewN lt_more le_more past_cell past_cell2 past_frozen past_frozen2 past_setCell past_setCell2 mid_cell mid_frozen mid_setCell
attribute [local go_sem ↓] Go.wp_at_zero Go.wp_at_succ

def NoAt (w : World) (n : Nat) (v x : Value) (wr : World) : Prop := ∃ j : Nat, j ≤ n ∧ v = .slice none 0 0 ∧ x = .int .i64 j ∧ Grew w wr
theorem rchildren_low (A : Option Addr) (n k : Nat) (m : Nat) (hm : m ≤ 1000) (A2 : Option Addr) (k2 : Nat) (i : Int) (hi : i < 0) (w : World) (hT : Gives Try.prog 41 #[.slice A n k] w (.slice A2 m k2)) :
    Calls Try.prog 22 #[.slice A n k, .int .i64 i] w (NatF w []) := by
  have HT0 := Lib.hid hT
  have ei : decide ((0 : Int) ≤ i) = false := decide_eq_false (by omega)
  clear hT
  go_enter Try.func22, Try.ntmps22
  go_wp2_with (go_at_call 41; (with_reducible refine HT0.out.grows.mono ?_); rintro e w6 ⟨rfl, hg6⟩; have HG6 := Lib.hid hg6; clear hg6)
  go_loopw [6, 7] (fun v x wr => NoAt w m v x wr) (fun _ x _ => m - (intOf x).toNat)
  case atStart => exact ⟨0, Nat.zero_le _, rfl, rfl, HG6.out⟩
  case round =>
    obtain ⟨j, hj, rfl, rfl, hg⟩ := hrel
    have HG := Lib.hid hg
    clear hg HG6
    by_cases h1 : j < m
    · go_wp2
      exact ⟨⟨j + 1, by omega, rfl, by go_num, HG.out⟩, by simp only [intOf]; omega⟩
    · obtain rfl : j = m := by omega
      have HF : Hid (NatF w [] (.returned (.slice none 0 0)) wr) := Lib.hid ⟨none, 0, rfl, HG.out, Or.inl rfl⟩
      go_wp2
      all_goals first | exact HF.out | (go_ret; exact HF.out)
end Go.Proofs.Ytpdkacfhnmfmaaa

/- Layer 23: in a tree each way up ends above the root: plain mathematics. No condition. -/
namespace Go.Proofs.Ytpdkacfhnmfmaaa

theorem getLastD_cons_of {a d : Int} {l : List Int} (h : l ≠ []) : (a :: l).getLastD d = l.getLastD d := by
  cases l with
  | nil => exact absurd rfl h
  | cons b t => rfl
theorem upL_end (ps : List Int) : ∀ (f : Nat) (i : Int), 0 ≤ i → i < ps.length → parI ps ((upL ps (f + 1) i).getLastD 0) = endN ps (f + 1) i := by
  intro f
  induction f with
  | zero =>
    intro i h0 h1
    have e : ps.getD i.toNat (-1) = ps.getD i.toNat 0 := by
      rw [List.getD_eq_getElem?_getD, List.getD_eq_getElem?_getD, List.getElem?_eq_getElem (by omega)]
      rfl
    rw [upL, if_pos ⟨h0, h1⟩, endN, if_pos ⟨h0, h1⟩]
    show ps.getD i.toNat (-1) = ps.getD i.toNat 0
    exact e
  | succ f ih =>
    intro i h0 h1
    have e : ps.getD i.toNat (-1) = ps.getD i.toNat 0 := by
      rw [List.getD_eq_getElem?_getD, List.getD_eq_getElem?_getD, List.getElem?_eq_getElem (by omega)]
      rfl
    rw [upL, if_pos ⟨h0, h1⟩, endN, if_pos ⟨h0, h1⟩, e]
    by_cases hy : 0 ≤ ps.getD i.toNat 0 ∧ ps.getD i.toNat 0 < ps.length
    · rw [getLastD_cons_of (by rw [upL, if_pos hy]; simp)]
      exact ih _ hy.1 hy.2
    · rw [endN_stop hy, upL, if_neg hy]
      show ps.getD i.toNat (-1) = _
      exact e
theorem tree_end {ps : List Int} (h : treeB ps = true) {i : Nat} (hi : i < ps.length) : endN ps ps.length (i : Int) = -1 := by
  unfold treeB at h
  rw [Bool.and_eq_true, List.all_eq_true] at h
  have h1 := h.1 i (List.mem_range.2 hi)
  rw [beq_iff_eq] at h1
  unfold lastUp upI at h1
  obtain ⟨f, hf⟩ : ∃ f, ps.length = f + 1 := ⟨ps.length - 1, by omega⟩
  have h2 := upL_end ps f (i : Int) (by omega) (by omega)
  rw [hf] at h1 ⊢
  rw [← h2]
  exact h1
/-- So climbing from any place ends outside. -/
theorem held_end (ps : List Int) (i : Int) : ¬ (0 ≤ endN (heldL (treeB ps) ps) (heldL (treeB ps) ps).length i ∧ endN (heldL (treeB ps) ps) (heldL (treeB ps) ps).length i < (heldL (treeB ps) ps).length) := by
  rcases h : treeB ps with _ | _
  · show ¬ (_ ∧ _ < (([] : List Int).length : Int))
    intro hh
    have h1 := hh.1
    have h2 : endN ([] : List Int) 0 i < ((0 : Nat) : Int) := hh.2
    have h3 : (0 : Int) ≤ endN ([] : List Int) 0 i := h1
    omega
  · show ¬ (0 ≤ endN ps ps.length i ∧ endN ps ps.length i < ps.length)
    by_cases hi : 0 ≤ i ∧ i < ps.length
    · obtain ⟨z, rfl⟩ : ∃ z : Nat, i = (z : Int) := ⟨i.toNat, by omega⟩
      rw [tree_end h (by omega)]
      omega
    · rw [endN_stop hi]
      exact hi
end Go.Proofs.Ytpdkacfhnmfmaaa

namespace Go.Proofs.Ytpdkacfhnmfmaaa

theorem depN_more (p : List Int) : ∀ (K : Nat) (i : Int), ¬ (0 ≤ endN p K i ∧ endN p K i < p.length) → depN p (K + 1) i = depN p K i := by
  intro K
  induction K with
  | zero =>
    intro i h
    rw [depN_stop (show ¬ (0 ≤ i ∧ i < p.length) from h), depN_stop (show ¬ (0 ≤ i ∧ i < p.length) from h)]
  | succ K ih =>
    intro i h
    by_cases hi : 0 ≤ i ∧ i < p.length
    · rw [depN_go hi, depN_go hi]
      rw [endN, if_pos hi] at h
      rw [ih _ h]
    · rw [depN_stop hi, depN_stop hi]
theorem held_dep (ps : List Int) (i : Int) : depN (heldL (treeB ps) ps) ((heldL (treeB ps) ps).length + 1) i = depN (heldL (treeB ps) ps) (heldL (treeB ps) ps).length i := depN_more _ _ _ (held_end ps i)
theorem heldL_len (b : Bool) (ps : List Int) : (heldL b ps).length ≤ ps.length := by
  cases b
  · exact Nat.zero_le _
  · exact Nat.le_refl _
end Go.Proofs.Ytpdkacfhnmfmaaa
