/- Layer 22: the ears that are removed, which are left, by the program. Condition: no more than a thousand edges of no more than thirty numbers each. -/
import Derived.Test.YtfdjnhnchibejaaEar2
import Derived.WalkMore
namespace Go.Proofs.Ytfdjnhnchibejaa
open Go.RowKit
attribute [local go_sem] more_cell more_frozen more_more more_setCell more_of_drew more_of_drewN lt_more le_more past_cell past_cell2 past_frozen past_frozen2 past_setCell past_setCell2 mid_cell mid_frozen mid_setCell
attribute [local go_sem ↓] Go.wp_at_zero Go.wp_at_succ

/-- Ears in memory: two cells each. -/
def eV (E : List (Nat × Nat)) : List Value := (E.map fun p => [Value.int .i64 p.1, Value.int .i64 p.2]).flatten
theorem eV_snoc (E : List (Nat × Nat)) (i p : Nat) : eV E ++ [.int .i64 i, .int .i64 p] = eV (E ++ [(i, p)]) := by simp [eV]
theorem eV_len (E : List (Nat × Nat)) : (eV E).length = E.length * 2 := by
  induction E with
  | nil => rfl
  | cons a t ih =>
    show ([Value.int .i64 a.1, Value.int .i64 a.2] ++ eV t).length = _
    rw [List.length_append, ih]
    simp
    omega
theorem eV_at {E : List (Nat × Nat)} {i : Nat} (hi : i < E.length) : (eV E)[i * 2]? = some (.int .i64 E[i].1) ∧ (eV E)[i * 2 + 1]? = some (.int .i64 E[i].2) := by
  induction E generalizing i with
  | nil => simp at hi
  | cons a t ih =>
    show ([Value.int .i64 a.1, Value.int .i64 a.2] ++ eV t)[i * 2]? = _ ∧ ([Value.int .i64 a.1, Value.int .i64 a.2] ++ eV t)[i * 2 + 1]? = _
    cases i with
    | zero => exact ⟨rfl, rfl⟩
    | succ i =>
      have h := ih (i := i) (by simpa using hi)
      rw [List.getElem?_append_right (by simp; omega), List.getElem?_append_right (by simp; omega)]
      rw [show (i + 1) * 2 - [Value.int .i64 a.1, Value.int .i64 a.2].length = i * 2 by simp; omega, show (i + 1) * 2 + 1 - [Value.int .i64 a.1, Value.int .i64 a.2].length = i * 2 + 1 by simp; omega]
      simpa using h
theorem infoEar : (Try.prog.info? 104).map (fun i => (i.zero, i.size, i.bytes)) = some (some (.agg #[.int .i64 0, .int .i64 0]), 2, 16) := by kernel_rfl
theorem neBE : (4 : TypeId) ≠ 104 := by decide
theorem bL_set (l : List Bool) (i : Nat) (v : Bool) : (bL l).toArray.setIfInBounds i (.bool v) = (bL (l.set i v)).toArray := by
  unfold bL
  apply Array.ext'
  rw [Array.toList_setIfInBounds, List.map_set]
theorem bL_made (n : Nat) (f : Nat → Bool) (h : ∀ i, i < n → f i = true) : bsV n f = (bL (List.replicate n true)).toArray := by
  unfold bsV bL
  congr 1
  apply List.ext_getElem
  · simp
  · intro i h1 h2
    simp at h1
    simp [h i h1]
theorem row_blok {w : World} {g : Nat} {t : TypeId} {cs : List Value} (h : Blok w g t cs.toArray) : Row w (some ⟨g, 0, none⟩) cs := Or.inr ⟨g, 0, rfl, h.lt, fun j u hu => by
  rw [Nat.zero_add, h.cell]
  simpa using hu⟩
theorem earR_nat {h : List (List Int)} {l : List Bool} {i : Nat} : earR h l (i : Int) = earP h l i := by
  unfold earR
  rw [if_pos (by omega), Int.toNat_natCast]
/-- Ears, and what is left, that are handed back. -/
def RemF (w : World) (h : List (List Int)) (n : Nat) (e : Ending) (w' : World) : Prop :=
  ∃ A k B c, e = .returned (.tuple #[.slice A (earsS h n).1.length k, .slice B n c]) ∧ Grew w w' ∧ Row w' A (eV (earsS h n).1) ∧ Row w' B (bL (earsS h n).2)
structure ReS (w : World) (lb : Nat) (h : List (List Int)) (k : Nat) (A : Option Addr) (c : Nat) (wr : World) : Prop where
  grew : Grew w wr
  blk : Blok wr lb 4 (bL (earsS h k).2).toArray
  own : wr.ownsRow (lb + 1) 104 2 (.slice A k c) k (eV (earsS h k).1)
  len : (earsS h k).1.length = k
theorem ReS.on {w wr w' : World} {lb k c : Nat} {h : List (List Int)} {A : Option Addr} (s : ReS w lb h k A c wr) (g : Grew wr w') : ReS w lb h k A c w' :=
  ⟨s.grew.trans g, s.blk.grew g, own_grewU s.own g, s.len⟩
theorem ReS.next {w wr w1 w' : World} {lb k c c' i p : Nat} {h : List (List Int)} {A A' : Option Addr} (s : ReS w lb h k A c wr) (hw : w.heap.size ≤ lb) (hs : stepE h (earsS h k).2 = some (i, p)) (hg : wr.grownBy w1 (Value.slice A k c).ownBlock)
    (ho : w1.ownsRow (lb + 1) 104 2 (.slice A' (k + 1) c') (k + 1) (eV (earsS h k).1 ++ [.int .i64 i, .int .i64 p])) (hw' : w' = w1.setCell ⟨lb, i, none⟩ (.bool false)) : ReS w lb h (k + 1) A' c' w' := by
  subst hw'
  have hb := s.blk.other s.own neBE hg
  refine ⟨(s.grew.grown hg fun q hq => by have := own_base s.own q hq; omega).setCell (a := ⟨lb, i, none⟩) hw _, ?_, ?_, ?_⟩
  · rw [earsS_some hs, ← bL_set]
    exact hb.set i _
  · rw [earsS_some hs, ← eV_snoc]
    exact own_aside2 ho (fun q hq => by have := own_base ho q hq; show q ≠ lb; omega) _
  · rw [earsS_some hs]
    simp [s.len]
def lenV : Value → Nat
  | .slice _ m _ => m
  | _ => 0
def TrAt (w : World) (lb n : Nat) (x : Value) (wr : World) : Prop := ∃ j : Nat, j ≤ n ∧ x = .int .i64 j ∧ Grew w wr ∧ Blok wr lb 4 (bsV n fun i => decide (i < j))
def ReO (w : World) (lb : Nat) (h : List (List Int)) (n : Nat) (x : Value) (wr : World) : Prop := ∃ (k : Nat) (A : Option Addr) (c : Nat), k ≤ n ∧ x = .slice A k c ∧ ReS w lb h k A c wr
def ReI (w : World) (h : List (List Int)) (l : List Bool) (n : Nat) (v y x : Value) (wr : World) : Prop := ∃ i : Nat, i ≤ n ∧ y = v ∧ x = .int .i64 i ∧ Grew w wr ∧ ∀ j, j < i → earP h l j = none
set_option maxHeartbeats 2000000 in
set_option maxRecDepth 100000 in
theorem removed22_any (h : List (List Int)) (n : Nat) (hn : h.length = n) (hn1 : n ≤ 1000) (hw : wfG h) (hel : ∀ e ∈ h, e.length ≤ 30) (A : Option Addr) (ka : Nat) (w : World) (ra : GridI (PRow w) A h) :
    Calls Try.prog 155 #[.slice A n ka] w (RemF w h n) := by
  have HN := Lib.hid hn
  have HEar := Lib.hid (fun (l : List Bool) (B : Option Addr) (c : Nat) (i : Int) W (hW : Grew w W) (hr : Row W B (bL l)) => ear22_any h n hn hn1 hw hel l A B ka c i W (ra.grew hW) hr)
  have HLe : Hid (∀ k, (earsS h k).1.length ≤ n) := Lib.hid fun k => by rw [← hn]; exact earsS_le h k
  have HLl : Hid (∀ k, (earsS h k).2.length = n) := Lib.hid fun k => by rw [← hn]; exact earsS_len h k
  have HEnd : Hid (∀ k, (earsS h k).1.length = k → stepE h (earsS h k).2 = none → earsS h n = earsS h k) := Lib.hid fun k h1 h2 => by rw [← hn]; exact earsS_end h1 h2
  have HS0 : Hid (earsS h 0 = ([], List.replicate n true)) := Lib.hid (by rw [← hn]; rfl)
  have HNone : Hid (∀ l, (∀ j, j < n → earP h l j = none) → stepE h l = none) := Lib.hid fun l hl => stepE_none (by rw [hn]; exact hl)
  have HSome : Hid (∀ l i p, i < n → earP h l i = some p → (∀ j, j < i → earP h l j = none) → stepE h l = some (i, p)) := Lib.hid fun l i p hi => stepE_some (by rw [hn]; exact hi)
  obtain ⟨j0, gi, gz0, gz1, gz2⟩ := info_parts infoB21
  have HJ := Lib.hid gi
  have HJ0 := Lib.hid gz0
  have HJ1 := Lib.hid gz1
  have HJ2 := Lib.hid gz2
  clear hn hw hel ra gi gz0 gz1 gz2
  obtain ⟨lb, hlb⟩ : ∃ lb, w.heap.size = lb := ⟨_, rfl⟩
  have HLb := Lib.hid hlb
  go_enter Try.func155, Try.ntmps155
  go_wp2
  go_step3
  go_wp2_with (at_make; refine wpList_make_row _ rfl _ _ 96 rfl 4 j0 (.bool false) Try.underlying96 HJ.out HJ0.out HJ1.out rfl _ _ n rfl rfl (by rw [HJ2.out]; omega) (by omega) ?_)
  have H0 : Hid (TrAt w w.heap.size n (.int .i64 (0 : Nat)) (w.alloc (.cells (madeCells #[.bool false] n) 4))) := Lib.hid ⟨0, Nat.zero_le _, rfl, (Grew.refl w).alloc _, by
    have e : (bsV n fun i => decide (i < 0)) = madeCells #[.bool false] n := by rw [bsV_made]; simp
    rw [e]
    exact Blok.new w 4 (madeCells #[.bool false] n) _ rfl⟩
  generalize w.alloc (.cells (madeCells #[.bool false] n) 4) = w1 at *
  rw [hlb] at H0
  clear hlb
  go_loopw [15] (fun x wr => TrAt w lb n x wr) (fun x _ => n - (intOf x).toNat)
  case atStart => exact H0.out
  case round =>
    obtain ⟨j, hj, rfl, hg, hb⟩ := hrel
    have HG := Lib.hid hg
    have HB := Lib.hid hb
    clear hg hb H0
    by_cases h1 : j < n
    · have t0 := HB.out.cell j
      rw [bsV_at n _ j h1] at t0
      have t1 := HB.out.thaw j
      have tl := HB.out.lt
      have HB2 : Hid (Blok (wr.setCell ⟨lb, j, none⟩ (.bool true)) lb 4 (bsV n fun i => decide (i < j + 1))) := Lib.hid (by
        have := HB.out.set j (.bool true)
        rw [bsV_set] at this
        have e : (fun i => if i = j then true else decide (i < j)) = fun i => decide (i < j + 1) := by
          funext i
          by_cases hi : i = j
          · rw [if_pos hi]; exact (decide_eq_true (by omega)).symm
          · rw [if_neg hi]
            by_cases h2 : i < j
            · rw [decide_eq_true h2]; exact (decide_eq_true (by omega)).symm
            · rw [decide_eq_false h2]; exact (decide_eq_false (by omega)).symm
        rwa [e] at this)
      have HG2 : Hid (Grew w (wr.setCell ⟨lb, j, none⟩ (.bool true))) := Lib.hid (HG.out.setCell (a := ⟨lb, j, none⟩) (by rw [HLb.out]; exact Nat.le_refl _) _)
      go_wp2
      exact ⟨⟨j + 1, by omega, by go_num, HG2.out, HB2.out⟩, by simp only [intOf]; omega⟩
    · obtain rfl : j = n := by omega
      have HR0 : Hid (ReS w lb h 0 none 0 wr) := Lib.hid ⟨HG.out, by
        rw [HS0.out]
        have := HB.out
        rwa [bL_made _ _ fun i hi => decide_eq_true hi] at this, by rw [HS0.out]; exact own_none _ _ _ _, by rw [HS0.out]; rfl⟩
      clear HG HB HS0
      go_wp2
      go_step3
      go_wp2
      go_loopw [4] (fun x wx => ReO w lb h j x wx) (fun x _ => j - lenV x)
      case atStart => exact ⟨0, none, 0, Nat.zero_le _, rfl, HR0.out⟩
      case round =>
        obtain ⟨k, A1, c1, hk, rfl, hs⟩ := hrel
        have HS := Lib.hid hs
        clear hs HR0
        obtain ⟨L, hL⟩ : ∃ L, (earsS h k).2 = L := ⟨_, rfl⟩
        have HL := Lib.hid hL
        clear hL
        have hLl : L.length = j := by rw [← HL.out]; exact HLl.out k
        have HEar1 := Lib.hid (HEar.out L (some ⟨lb, 0, none⟩))
        have HBk : Hid (Blok wr lb 4 (bL L).toArray) := Lib.hid (by rw [← HL.out]; exact HS.out.blk)
        rw [hLl] at HEar1
        go_wp2
        go_loopw [4, 24] (fun y x wx => ReI wr h L j (.slice A1 k c1) y x wx) (fun _ x _ => j - (intOf x).toNat)
        case atStart => exact ⟨0, Nat.zero_le _, rfl, rfl, Grew.refl _, fun i hi => by omega⟩
        case round =>
          obtain ⟨i, hi, rfl, rfl, hg, hnone⟩ := hrel
          have HG := Lib.hid hg
          have HNo := Lib.hid hnone
          clear hg hnone
          by_cases h2 : i < j
          · have HE := Lib.hid (fun c => HEar1.out c i wr (HS.out.grew.trans HG.out) (row_blok (HBk.out.grew HG.out)))
            rw [earR_nat] at HE
            rcases hp : earP h L i with _ | p
            · rw [hp] at HE
              unfold earT at HE
              simp only [Option.isSome] at HE
              have HNx : Hid (∀ q, q < i + 1 → earP h L q = none) := Lib.hid fun q hq => by
                by_cases e : q = i
                · subst e; exact hp
                · exact HNo.out q (by omega)
              clear hp HNo
              go_wp2_with (go_at_call 73; (with_reducible refine (HE.out _).grows.mono ?_); rintro e w6 ⟨rfl, hg6⟩; have HG6 := Lib.hid (HG.out.trans hg6); clear hg6)
              exact ⟨⟨i + 1, by omega, rfl, by go_num, HG6.out, HNx.out⟩, by simp only [intOf]; omega⟩
            · rw [hp] at HE
              unfold earT at HE
              simp only [Option.isSome] at HE
              have hst := HSome.out L i p h2 hp HNo.out
              rw [← HL.out] at hst
              have HSt := Lib.hid hst
              have hkj : k + 1 ≤ j := by
                have h4 := HLe.out (k + 1)
                rw [earsS_some hst, List.length_append, HS.out.len] at h4
                simpa using h4
              have hpj : p < j := by
                have := (earP_inv hp).2.2.1
                rwa [HN.out] at this
              clear hp HNo hst
              have hbs := HBk.out.grew HG.out
              have HSx := Lib.hid (HS.out.on HG.out)
              go_upto_region 13 with (go_at_call 73; (with_reducible refine (HE.out _).grows.mono ?_); rintro e w6 ⟨rfl, hg6⟩; have HS6 := Lib.hid (HSx.out.on hg6); clear hg6)
              have HS7 := Lib.hid (HS6.out.on ((Grew.refl w6).alloc (.cells #[.int .i64 i, .int .i64 p] 104)))
              have h6l := HS6.out.blk.lt
              go_upto_region 14 with (at_builtin; refine wpList_appB rfl _ _ 99 104 2 rfl (lb + 1) (.agg #[.int .i64 0, .int .i64 0]) 16 Try.underlying99 infoEar rfl (by decide) (by decide) _ k (eV (earsS h k).1) rfl HS7.out.own _ 1 1 [.int .i64 i, .int .i64 p] rfl rfl (row_new _ _ _ _ rfl) (by simp [Value.oneCell']) (by omega) (by rw [World.size_alloc]; omega) ?_; intro A9 c9 w9 ho9 hg9; have HO9 := Lib.hid ho9; have HG9 := Lib.hid hg9; clear ho9 hg9)
              have hbl9 := HS7.out.blk.other HS7.out.own neBE HG9.out
              rw [HL.out] at hbl9
              have t0 := hbl9.cell i
              have t1 := hbl9.thaw i
              have tl := hbl9.lt
              have HF := Lib.hid (HS7.out.next (w' := w9.setCell ⟨lb, i, none⟩ (.bool false)) (by rw [HLb.out]; exact Nat.le_refl _) HSt.out HG9.out HO9.out rfl)
              have t2 : ((bL L).toArray)[i]? = some (.bool L[i]) := by simp [bL]
              rw [t2] at t0
              clear hbl9 t2
              go_wp2
              exact ⟨⟨k + 1, A9, c9, hkj, rfl, HF.out⟩, by simp only [lenV]; omega⟩
          · obtain rfl : i = j := by omega
            have hst := HNone.out L HNo.out
            rw [← HL.out] at hst
            have HE := Lib.hid (HEnd.out k HS.out.len hst)
            have HF : Hid (RemF w h i (.returned (.tuple #[.slice A1 k c1, .slice (some ⟨lb, 0, none⟩) i i])) wr) := Lib.hid (by
              have s := HS.out.on HG.out
              obtain ⟨A', c', e, hr⟩ := own_row s.own
              injection e with e _ _
              subst e
              refine ⟨A1, c1, some ⟨lb, 0, none⟩, i, ?_, s.grew, by rw [HE.out]; exact hr, by rw [HE.out]; exact row_blok s.blk⟩
              rw [HE.out, s.len])
            clear HE hst HNo
            go_wp2
            try rw [Exit.noGoto_ret]
            go_ret2
            exact HF.out
end Go.Proofs.Ytfdjnhnchibejaa
