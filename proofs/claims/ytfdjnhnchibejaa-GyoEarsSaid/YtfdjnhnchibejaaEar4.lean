/- Layer 22: ears and what is left, by the program, and by the document. Condition: no more than a thousand edges of no more than thirty numbers each. -/
import Derived.Test.YtfdjnhnchibejaaEar3
namespace Go.Proofs.Ytfdjnhnchibejaa
open Go.RowKit
attribute [local go_sem] more_cell more_frozen more_more more_setCell more_of_drew more_of_drewN lt_more le_more past_cell past_cell2 past_frozen past_frozen2 past_setCell past_setCell2 mid_cell mid_frozen mid_setCell
attribute [local go_sem ↓] Go.wp_at_zero Go.wp_at_succ

def EarsF (w : World) (E : List (Nat × Nat)) (e : Ending) (w' : World) : Prop := ∃ A k, e = .returned (.slice A E.length k) ∧ Grew w w' ∧ Row w' A (eV E)
theorem ears22_any (h : List (List Int)) (n : Nat) (hn : h.length = n) (hn1 : n ≤ 1000) (hw : wfG h) (hel : ∀ e ∈ h, e.length ≤ 30) (A : Option Addr) (ka : Nat) (w : World) (ra : GridI (PRow w) A h) :
    Calls Try.prog 75 #[.slice A n ka] w (EarsF w (earsS h n).1) := by
  have HR := Lib.hid (removed22_any h n hn hn1 hw hel A ka w ra)
  clear hn hw hel ra
  go_enter Try.func75, Try.ntmps75
  go_wp2_with fail
  refine HR.out.mono ?_
  rintro e w1 ⟨A1, k1, B1, c1, rfl, hg1, hr1, _⟩
  have HF : Hid (EarsF w (earsS h n).1 (.returned (.slice A1 (earsS h n).1.length k1)) w1) := Lib.hid ⟨A1, k1, rfl, hg1, hr1⟩
  clear hg1 hr1 HR
  generalize EarsF w (earsS h n).1 = F at *
  generalize (earsS h n).1.length = m at *
  go_wp2
  first | exact HF.out | (go_ret; exact HF.out)
theorem leftL_in {l : List Bool} {m : Nat} (h : thB l m = true) : leftL l (m + 1) = leftL l m ++ [(m : Int)] := by
  show (if thB l m then leftL l m ++ [(m : Int)] else leftL l m) = _
  rw [if_pos h]
theorem leftL_out {l : List Bool} {m : Nat} (h : thB l m = false) : leftL l (m + 1) = leftL l m := by
  show (if thB l m then leftL l m ++ [(m : Int)] else leftL l m) = _
  rw [if_neg (by simp [h])]
theorem leftL_le (l : List Bool) (m : Nat) : (leftL l m).length ≤ m := by
  induction m with
  | zero => exact Nat.le_refl _
  | succ m ih =>
    unfold leftL
    split
    · rw [List.length_append]; simpa using ih
    · omega
def LeAt (u w : World) (l : List Bool) (n : Nat) (v x : Value) (wr : World) : Prop := ∃ (m : Nat) (A : Option Addr) (c : Nat), m ≤ n ∧ v = .slice A (leftL l m).length c ∧ x = .int .i64 m ∧ Grew w wr ∧ wr.ownsRow u.heap.size 3 1 (.slice A (leftL l m).length c) (leftL l m).length (iV (leftL l m))
set_option maxHeartbeats 1000000 in
set_option maxRecDepth 100000 in
theorem left22_any (h : List (List Int)) (n : Nat) (hn : h.length = n) (hn1 : n ≤ 1000) (hw : wfG h) (hel : ∀ e ∈ h, e.length ≤ 30) (A : Option Addr) (ka : Nat) (w : World) (ra : GridI (PRow w) A h) :
    Calls Try.prog 77 #[.slice A n ka] w (OwnI w (leftI h)) := by
  have HR := Lib.hid (removed22_any h n hn hn1 hw hel A ka w ra)
  have HLl : Hid ((earsS h n).2.length = n) := Lib.hid (by rw [← hn]; exact earsS_len h _)
  have HE : Hid (leftI h = leftL (earsS h n).2 n) := Lib.hid (by rw [← hn]; rfl)
  clear hn hw hel ra
  obtain ⟨L, hL⟩ : ∃ L, (earsS h n).2 = L := ⟨_, rfl⟩
  have HFin : Hid (∀ A k W, Grew w W → W.ownsRow w.heap.size 3 1 (.slice A (leftL L n).length k) (leftL L n).length (iV (leftL L n)) → OwnI w (leftI h) (.returned (.slice A (leftL L n).length k)) W) := Lib.hid fun A k W hW ho => by
    rw [HE.out, hL]
    exact ⟨A, k, rfl, hW, ho⟩
  rw [hL] at HLl
  have HL := Lib.hid hL
  clear hL HE
  generalize OwnI w (leftI h) = F at *
  go_enter Try.func77, Try.ntmps77
  go_wp2_with fail
  refine HR.out.mono ?_
  rintro e w1 ⟨A1, k1, B1, c1, rfl, hg1, _, hr1⟩
  have HG1 := Lib.hid hg1
  have HR1 : Hid (Row w1 B1 (bL L)) := Lib.hid (by rw [← HL.out]; exact hr1)
  clear hg1 hr1 HR HL
  generalize (earsS h n).1.length = m at *
  go_wp2
  go_loopw [3, 15] (fun v x wr => LeAt w1 w1 L n v x wr) (fun _ x _ => n - (intOf x).toNat)
  case atStart => exact ⟨0, none, 0, Nat.zero_le _, rfl, rfl, Grew.refl w1, own_none _ _ _ _⟩
  case round =>
    obtain ⟨i, A2, c2, hi, rfl, rfl, hg, ho⟩ := hrel
    have HG := Lib.hid hg
    have HO := Lib.hid ho
    clear hg ho
    have hll := leftL_le L i
    by_cases h1 : i < n
    · obtain ⟨b, o, rfl, hb, hc⟩ := boolrow_at (HR1.out.grew HG.out) (show i < L.length by rw [HLl.out]; exact h1)
      rcases ht : thB L i with _ | _
      · rw [ht] at hc
        have HT := Lib.hid (leftL_out ht)
        clear ht
        generalize hoo : leftL L i = oo at *
        clear hoo
        go_wp2
        exact ⟨⟨i + 1, A2, c2, by omega, by rw [HT.out], by go_num, HG.out, by rw [HT.out]; exact HO.out⟩, by simp only [intOf]; omega⟩
      · rw [ht] at hc
        have HT := Lib.hid (leftL_in ht)
        clear ht
        generalize hoo : leftL L i = oo at *
        clear hoo
        go_wp2_with (at_builtin; refine wpList_appB rfl _ _ 38 3 1 rfl w1.heap.size (.int .i64 0) 8 Try.underlying38 infoI rfl (by decide) (by decide) _ oo.length (iV oo) rfl (own_alloc HO.out _) _ 1 1 [.int .i64 i] rfl rfl (row_one _ _ _ _ rfl) (by simp [Value.oneCell']) (by omega) (by rw [World.size_alloc]; have := HG.out.size; omega) ?_; intro A9 c9 w9 ho9 hg9; have HG9 := Lib.hid ((HG.out.alloc (.cells #[.int .i64 i] 3)).grown hg9 (own_base HO.out)); have HO9 := Lib.hid ho9; clear ho9 hg9)
        exact ⟨⟨i + 1, A9, c9, by omega, by rw [HT.out, List.length_append]; rfl, by go_num, HG9.out, by rw [HT.out, List.length_append, ← iV_snoc]; exact HO9.out⟩, by simp only [intOf]; omega⟩
    · obtain rfl : i = n := by omega
      have HF := Lib.hid (HFin.out A2 c2 wr (HG1.out.trans HG.out) (own_le HO.out HG1.out.size))
      generalize (leftL L i).length = q at *
      go_wp2
      first | exact HF.out | (go_ret; exact HF.out)
theorem acyclic22_any (h : List (List Int)) (n : Nat) (hn : h.length = n) (hn1 : n ≤ 1000) (hw : wfG h) (hel : ∀ e ∈ h, e.length ≤ 30) (A : Option Addr) (ka : Nat) (w : World) (ra : GridI (PRow w) A h) :
    Gives Try.prog 78 #[.slice A n ka] w (.bool (decide ((leftI h).length ≤ 1))) := by
  have HL := Lib.hid (left22_any h n hn hn1 hw hel A ka w ra)
  clear hn hw hel ra
  generalize leftI h = l at *
  unfold Gives
  go_enter Try.func78, Try.ntmps78
  go_wp2_with fail
  refine HL.out.mono ?_
  rintro e w1 ⟨A1, k1, rfl, hg1, _⟩
  have HG1 := Lib.hid hg1
  clear hg1 HL
  go_wp2
  go_ret
  have e : decide ((l.length : Int) ≤ 1) = decide (l.length ≤ 1) := by rw [decide_eq_decide]; omega
  exact ⟨by rw [← e]; rfl, HG1.out⟩
/-- The ears, by the document. -/
structure DoS (w : World) (Al : Option Addr) (cl : Nat) (h : List (List Int)) (n k m : Nat) (A : Option Addr) (c : Nat) (wr : World) : Prop where
  grew : Grew w wr
  left : wr.ownsRow w.heap.size 4 1 (.slice Al n cl) n (bL (earsS h k).2)
  own : wr.ownsRow w.heap.size 104 2 (.slice A m c) m (eV (earsS h k).1)
  len : (earsS h k).1.length = m
theorem DoS.on {w wr w' : World} {Al A : Option Addr} {cl c n k m : Nat} {h : List (List Int)} (s : DoS w Al cl h n k m A c wr) (g : Grew wr w') : DoS w Al cl h n k m A c w' :=
  ⟨s.grew.trans g, own_grewU s.left g, own_grewU s.own g, s.len⟩
theorem DoS.stay {w wr : World} {Al A : Option Addr} {cl c n k m : Nat} {h : List (List Int)} (s : DoS w Al cl h n k m A c wr) (hs : stepE h (earsS h k).2 = none) : DoS w Al cl h n (k + 1) m A c wr :=
  ⟨s.grew, by rw [earsS_none hs]; exact s.left, by rw [earsS_none hs]; exact s.own, by rw [earsS_none hs]; exact s.len⟩
theorem DoS.next {w wr w1 w' : World} {A A' : Option Addr} {lg cl c c' n k m i p : Nat} {h : List (List Int)} (s : DoS w (some ⟨lg, 0, none⟩) cl h n k m A c wr) (hlg : w.heap.size ≤ lg) (hs : stepE h (earsS h k).2 = some (i, p)) (hg : wr.grownBy w1 (Value.slice A m c).ownBlock)
    (ho : w1.ownsRow w.heap.size 104 2 (.slice A' (m + 1) c') (m + 1) (eV (earsS h k).1 ++ [.int .i64 i, .int .i64 p])) (hw' : w' = w1.setCell ⟨lg, i, none⟩ (.bool false)) : DoS w (some ⟨lg, 0, none⟩) cl h n (k + 1) (m + 1) A' c' w' := by
  subst hw'
  have hl1 : w1.ownsRow w.heap.size 4 1 (.slice (some ⟨lg, 0, none⟩) n cl) n (bL (earsS h k).2) := own_grown s.left hg fun q hq e => type_apart s.left s.own neBE q hq e.symm
  refine ⟨(s.grew.grown hg (own_base s.own)).setCell (a := ⟨lg, i, none⟩) hlg _, ?_, ?_, ?_⟩
  · rw [earsS_some hs]
    have := (hl1.stored i (.bool false)).1
    have e : (bL (earsS h k).2).set i (.bool false) = bL ((earsS h k).2.set i false) := by unfold bL; rw [List.map_set]
    rwa [e] at this
  · rw [earsS_some hs, ← eV_snoc]
    exact own_aside2 ho (fun q hq e => type_apart hl1 ho neBE lg rfl (by rw [hq, e])) _
  · rw [earsS_some hs]
    simp [s.len]
def DtAt (w : World) (n : Nat) (v x : Value) (wr : World) : Prop := ∃ (j : Nat) (A : Option Addr) (c : Nat), j ≤ n ∧ v = .slice A j c ∧ x = .int .i64 j ∧ Grew w wr ∧ wr.ownsRow w.heap.size 4 1 (.slice A j c) j (bL (List.replicate j true))
def DoO (w : World) (Al : Option Addr) (cl : Nat) (h : List (List Int)) (n : Nat) (v x : Value) (wr : World) : Prop := ∃ (k m : Nat) (A : Option Addr) (c : Nat), k ≤ n ∧ v = .slice A m c ∧ x = .int .i64 k ∧ DoS w Al cl h n k m A c wr
set_option maxHeartbeats 2000000 in
set_option maxRecDepth 100000 in
theorem rears22_any (h : List (List Int)) (n : Nat) (hn : h.length = n) (hn1 : n ≤ 1000) (hel : ∀ e ∈ h, e.length ≤ 30) (A : Option Addr) (ka : Nat) (w : World) (ra : GridI (PRow w) A h) :
    Calls Try.prog 76 #[.slice A n ka] w (RemF w h n) := by
  have HPar := Lib.hid (fun (l : List Bool) (B : Option Addr) (c : Nat) (i : Int) W (hW : Grew w W) (hr : Row W B (bL l)) => rparent22_any h n hn hn1 hel l A B ka c i W (ra.grew hW) hr)
  have HLe : Hid (∀ k, (earsS h k).1.length ≤ n) := Lib.hid fun k => by rw [← hn]; exact earsS_le h k
  have HLl : Hid (∀ k, (earsS h k).2.length = n) := Lib.hid fun k => by rw [← hn]; exact earsS_len h k
  have HS0 : Hid (earsS h 0 = ([], List.replicate n true)) := Lib.hid (by rw [← hn]; rfl)
  have HNone : Hid (∀ l, (∀ j, j < n → earP h l j = none) → stepE h l = none) := Lib.hid fun l hl => stepE_none (by rw [hn]; exact hl)
  have HSome : Hid (∀ l i p, i < n → earP h l i = some p → (∀ j, j < i → earP h l j = none) → stepE h l = some (i, p)) := Lib.hid fun l i p hi => stepE_some (by rw [hn]; exact hi)
  clear hn hel ra
  go_enter Try.func76, Try.ntmps76
  go_wp2
  go_loopw [4, 5] (fun v x wr => DtAt w n v x wr) (fun _ x _ => n - (intOf x).toNat)
  case atStart => exact ⟨0, none, 0, Nat.zero_le _, rfl, rfl, Grew.refl w, own_none _ _ _ _⟩
  case round =>
    obtain ⟨j, A1, c1, hj, rfl, rfl, hg, ho⟩ := hrel
    have HG := Lib.hid hg
    have HO := Lib.hid ho
    clear hg ho
    have hws := HG.out.size
    by_cases h1 : j < n
    · have HT : Hid (bL (List.replicate (j + 1) true) = bL (List.replicate j true) ++ [.bool true]) := Lib.hid (by unfold bL; rw [List.replicate_succ', List.map_append]; rfl)
      go_wp2_with (at_builtin; refine wpList_appB rfl _ _ 96 4 1 rfl w.heap.size (.bool false) 1 Try.underlying96 infoB21 rfl (by decide) (by decide) _ j (bL (List.replicate j true)) rfl (own_alloc HO.out _) _ 1 1 [.bool true] rfl rfl (row_one _ _ _ _ rfl) (by simp [Value.oneCell']) (by omega) (by rw [World.size_alloc]; omega) ?_; intro A9 c9 w9 ho9 hg9; have HG9 := Lib.hid ((HG.out.alloc (.cells #[.bool true] 4)).grown hg9 (own_base HO.out)); have HO9 := Lib.hid ho9; clear ho9 hg9)
      exact ⟨⟨j + 1, A9, c9, by omega, rfl, by go_num, HG9.out, by rw [HT.out]; exact HO9.out⟩, by simp only [intOf]; omega⟩
    · obtain rfl : j = n := by omega
      have HD0 : Hid (DoS w A1 c1 h j 0 0 none 0 wr) := Lib.hid ⟨HG.out, by rw [HS0.out]; exact HO.out, by rw [HS0.out]; exact own_none _ _ _ _, by rw [HS0.out]; rfl⟩
      clear HG HO HS0
      go_wp2
      go_loopw [6, 7] (fun v x wx => DoO w A1 c1 h j v x wx) (fun _ x _ => j - (intOf x).toNat)
      case atStart => exact ⟨0, 0, none, 0, Nat.zero_le _, rfl, rfl, HD0.out⟩
      case round =>
        obtain ⟨k, m, A2, c2, hk, rfl, rfl, hs⟩ := hrel
        have HS := Lib.hid hs
        clear hs HD0
        by_cases hkj : k < j
        · obtain ⟨L, hL⟩ : ∃ L, (earsS h k).2 = L := ⟨_, rfl⟩
          have HL := Lib.hid hL
          clear hL
          have hLl : L.length = j := by rw [← HL.out]; exact HLl.out k
          have HPar1 := Lib.hid (HPar.out L A1 c1)
          rw [hLl] at HPar1
          have hmj : m ≤ j := by have := HLe.out k; rw [HS.out.len] at this; exact this
          go_wp2
          go_loopw [6, 8] (fun y x wx => ReI wr h L j (.slice A2 m c2) y x wx) (fun _ x _ => j - (intOf x).toNat)
          case atStart => exact ⟨0, Nat.zero_le _, rfl, rfl, Grew.refl _, fun i hi => by omega⟩
          case round =>
            obtain ⟨i, hi, rfl, rfl, hg, hnone⟩ := hrel
            have HG := Lib.hid hg
            have HNo := Lib.hid hnone
            clear hg hnone
            by_cases h2 : i < j
            · have HRow : Hid (Row wr A1 (bL L)) := Lib.hid (by
                obtain ⟨A', c', e, hr⟩ := own_row (HS.out.on HG.out).left
                injection e with e _ _
                subst e
                rw [← HL.out]; exact hr)
              have HE := Lib.hid (HPar1.out i wr (HS.out.grew.trans HG.out) HRow.out)
              rw [earR_nat] at HE
              rcases hp : earP h L i with _ | p
              · rw [hp] at HE
                unfold parV at HE
                simp only at HE
                have HNx : Hid (∀ q, q < i + 1 → earP h L q = none) := Lib.hid fun q hq => by
                  by_cases e : q = i
                  · subst e; exact hp
                  · exact HNo.out q (by omega)
                clear hp HNo
                go_wp2_with (go_at_call 154; (with_reducible refine HE.out.grows.mono ?_); rintro e w6 ⟨rfl, hg6⟩; have HG6 := Lib.hid (HG.out.trans hg6); clear hg6)
                exact ⟨⟨i + 1, by omega, rfl, by go_num, HG6.out, HNx.out⟩, by simp only [intOf]; omega⟩
              · rw [hp] at HE
                unfold parV at HE
                simp only at HE
                have hst := HSome.out L i p h2 hp HNo.out
                rw [← HL.out] at hst
                have HSt := Lib.hid hst
                have hp0 : (0 : Int) ≤ (p : Int) := by omega
                have HSx := Lib.hid (HS.out.on HG.out)
                have hil : (bL L) ≠ [] := fun e => by have := bL_len L; rw [e] at this; simp at this; omega
                obtain ⟨lg, cap, cur, hv, hlg, hcap, hbk, hcur⟩ := own_blok (by rw [← HL.out] at hil; exact HSx.out.left) (by rw [HL.out]; exact hil)
                injection hv with hv1 _ hv2
                subst hv1
                clear hp HNo hst hv2 hcap hbk hcur hil cap cur
                go_upto_region 15 with (go_at_call 154; (with_reducible refine HE.out.grows.mono ?_); rintro e w6 ⟨rfl, hg6⟩; have HS6 := Lib.hid (HSx.out.on hg6); clear hg6)
                have HS7 := Lib.hid (HS6.out.on ((Grew.refl w6).alloc (.cells #[.int .i64 i, .int .i64 p] 104)))
                have h6l := HS6.out.grew.size
                go_upto_region 16 with (at_builtin; refine wpList_appB rfl _ _ 99 104 2 rfl w.heap.size (.agg #[.int .i64 0, .int .i64 0]) 16 Try.underlying99 infoEar rfl (by decide) (by decide) _ m (eV (earsS h k).1) rfl HS7.out.own _ 1 1 [.int .i64 i, .int .i64 p] rfl rfl (row_new _ _ _ _ rfl) (by simp [Value.oneCell']) (by omega) (by rw [World.size_alloc]; omega) ?_; intro A9 c9 w9 ho9 hg9; have HO9 := Lib.hid ho9; have HG9 := Lib.hid hg9; clear ho9 hg9)
                have hl9 : w9.ownsRow w.heap.size 4 1 (.slice (some ⟨lg, 0, none⟩) j c1) j (bL (earsS h k).2) := own_grown HS7.out.left HG9.out fun q hq e => type_apart HS7.out.left HS7.out.own neBE q hq e.symm
                have HF := Lib.hid (HS7.out.next (w' := w9.setCell ⟨lg, i, none⟩ (.bool false)) hlg HSt.out HG9.out HO9.out rfl)
                rw [HL.out] at hl9
                obtain ⟨lg2, cap, cur, hv, _, hcap, hbk, hcur⟩ := own_blok hl9 (fun e => by have := bL_len L; rw [e] at this; simp at this; omega)
                injection hv with hv1 _ hv2
                injection hv1 with hv1
                injection hv1 with hv1 _ _
                subst hv1
                have t0 := hbk.cell i
                have t1 := hbk.thaw i
                have tl := hbk.lt
                rw [hcur i (.bool L[i]) (by simp [bL])] at t0
                clear hl9 hbk hcur hcap
                go_wp2
                exact ⟨⟨k + 1, m + 1, A9, c9, by omega, rfl, by go_num, HF.out⟩, by simp only [intOf]; omega⟩
            · obtain rfl : i = j := by omega
              have hst := HNone.out L HNo.out
              rw [← HL.out] at hst
              have HF := Lib.hid ((HS.out.on HG.out).stay hst)
              clear hst HNo
              go_wp2
              exact ⟨⟨k + 1, m, A2, c2, by omega, rfl, by go_num, HF.out⟩, by simp only [intOf]; omega⟩
        · obtain rfl : k = j := by omega
          have HF : Hid (RemF w h k (.returned (.tuple #[.slice A2 m c2, .slice A1 k c1])) wr) := Lib.hid (by
            have s := HS.out
            obtain ⟨A', c', e, hr⟩ := own_row s.own
            injection e with e _ _
            subst e
            obtain ⟨A', c', e, hr2⟩ := own_row s.left
            injection e with e _ _
            subst e
            exact ⟨A2, c2, A1, c1, by rw [s.len], s.grew, hr, hr2⟩)
          go_wp2
          go_ret2
          exact HF.out
end Go.Proofs.Ytfdjnhnchibejaa
