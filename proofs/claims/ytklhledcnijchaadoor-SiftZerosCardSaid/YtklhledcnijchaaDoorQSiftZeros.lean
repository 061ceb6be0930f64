/- The statement SiftZerosSaid: for every input the law returns true, and each argument reads as it did. No condition beyond the row's own. -/
import Derived.Test.YtklhledcnijchaaDoorVls
import Derived.Test.YtklhledcnijchaaDoorApp2
import Derived.Test.YtklhledcnijchaaDoorVal
import Derived.Deep.DeepCutAuto
import Derived.Test.YtklhledcnijchaaDoorSift4
import Derived.Test.YtklhledcnijchaaDoorGoodRow
import Derived.Test.YtklhledcnijchaaDoorRowEq
import Derived.Test.YtklhledcnijchaaDoorTab
import Derived.Test.YtklhledcnijchaaDoorFrame2
import Derived.Test.YtklhledcnijchaaDoorTie
import Derived.Test.YtklhledcnijchaaDoorCards
import Derived.ProofKit
import Derived.LaidMore
import Derived.Lib.LaidTab
import Derived.Stop.LaidErr
import Derived.Stop.Joined
import Derived.SevenTiedAt

/- rows.copied of values, and rows.Join. Condition: no more than a million values in all. -/
namespace Go.Proofs.YtklhledcnijchaaDoor
open Go.RowKit
attribute [local go_sem] more_cell more_frozen more_more more_setCell more_of_drew more_of_drewN lt_more le_more past_cell past_cell2 past_frozen past_frozen2 past_setCell past_setCell2 mid_cell mid_frozen mid_setCell
attribute [local go_sem ↓] Go.wp_at_zero Go.wp_at_succ

/-- One of several rows: where it lies, how far it may grow, its values. -/
structure VPart where
  A : Option Addr
  k : Nat
  m : List Vl
instance vpart_some : Inhabited VPart := ⟨⟨none, 0, []⟩⟩
def vpartV (p : VPart) : Value := .slice p.A p.m.length p.k
def allV (ps : List VPart) : List Vl := (ps.map VPart.m).flatten
theorem allV_take {ps : List VPart} {j : Nat} (h : j < ps.length) : allV (ps.take (j + 1)) = allV (ps.take j) ++ ps[j].m := by
  unfold allV
  rw [List.take_succ_eq_append_getElem h, List.map_append, List.flatten_append]
  simp
theorem allV_le (ps : List VPart) (j : Nat) : (allV (ps.take j)).length ≤ (allV ps).length := by
  have : allV ps = allV (ps.take j) ++ allV (ps.drop j) := by
    unfold allV
    rw [← List.flatten_append, ← List.map_append, List.take_append_drop]
  rw [this, List.length_append]
  omega
def CvAt (ps : List VPart) (n i : Value) : Prop := ∃ j m : Nat, j ≤ ps.length ∧ i = .int .i64 j ∧ n = .int .i64 m ∧ m = (allV (ps.take j)).length
def CvAt2 (w : World) (ps : List VPart) (N : Nat) (g : Nat) (at_ i : Value) (wr : World) : Prop :=
  ∃ j m : Nat, j ≤ ps.length ∧ i = .int .i64 j ∧ at_ = .int .i64 m ∧ m = (allV (ps.take j)).length ∧ Below w.heap.size w wr ∧ wr.heap[g]? = some (.cells (flatV (allV (ps.take j)) ++ flatV (List.replicate (N - m) nulV)).toArray 31 (0, 0))
/-- A row of values of its own is handed back. -/
def ValsF (w : World) (m : List Vl) (en : Ending) (w' : World) : Prop := ∃ A k, en = .returned (.slice A m.length k) ∧ Grew w w' ∧ w'.ownsRow w.heap.size 31 3 (.slice A m.length k) m.length (flatV m)
/-- A whole block of values is one's own. -/
theorem own_whole {w : World} {g base n : Nat} {m : List Vl} (hn : m.length = n) (h : w.heap[g]? = some (.cells (flatV m).toArray 31 (0, 0))) (hb : base ≤ g) (hl : n ≤ 1000000) : w.ownsRow base 31 3 (.slice (some ⟨g, 0, none⟩) n n) n (flatV m) :=
  ⟨by rw [flatV_len, hn], Or.inr ⟨g, n, _, rfl, hb, h, Nat.le_refl _, by unfold maxLen; omega, by simp [flatV_len, hn], by
    show (flatV m).take (n * 3) = flatV m
    rw [List.take_of_length_le (by rw [flatV_len, hn]; exact Nat.le_refl _)]⟩⟩
theorem own_vals {w : World} {base n c : Nat} {A : Option Addr} {m : List Vl} (h : w.ownsRow base 31 3 (.slice A n c) n (flatV m)) : VlsR (PRow w) A m := vlsR_flat (own_rowV h)
set_option maxHeartbeats 2000000 in
set_option maxRecDepth 100000 in
theorem copied_vals (ps : List VPart) (m : Nat) (hm : ps.length = m) (hm1 : m ≤ 1000000) (hN : (allV ps).length ≤ 1000000) (P : Option Addr) (k : Nat) (w : World) (hp : Row w P (ps.map vpartV)) (hps : ∀ p ∈ ps, Row w p.A (flatV p.m)) :
    Calls Tryd.prog 56 #[.slice P m k] w (ValsF w (allV ps)) := by
  have HM := Lib.hid hm
  have HP := Lib.hid hp
  have HS := Lib.hid hps
  have HL := Lib.hid (fun j => allV_le ps j)
  obtain ⟨N, hNN⟩ : ∃ N, (allV ps).length = N := ⟨_, rfl⟩
  have HN := Lib.hid hNN
  unfold ValsF
  rw [hNN] at hN ⊢
  clear hm hp hps hNN
  go_enter Tryd.func56, Tryd.ntmps56
  go_wp2
  go_loop [3, 12] (fun n i => CvAt ps n i) (fun _ i => m - (intOf i).toNat)
  case atStart => exact ⟨0, 0, Nat.zero_le _, rfl, rfl, by simp [allV]⟩
  case round =>
    obtain ⟨j, x, hj, rfl, rfl, hx⟩ := hrel
    rw [HM.out] at hj
    have hx1 := HL.out j
    rw [HN.out, ← hx] at hx1
    have HX := Lib.hid hx
    clear hx
    by_cases h : j < m
    · have h1 : j < ps.length := by rw [HM.out]; exact h
      obtain ⟨b, o, rfl, hb, hc⟩ := HP.out.at_ (k := j) (by simpa using h1)
      rw [List.getElem_map] at hc
      have hx2 := HL.out (j + 1)
      rw [HN.out, allV_take h1, List.length_append, ← HX.out] at hx2
      have HT := Lib.hid (allV_take h1)
      unfold vpartV at hc
      generalize ps[j] = p at *
      generalize hpm : p.m.length = pn at *
      have HPM := Lib.hid hpm
      clear hpm
      go_wp2
      exact ⟨⟨j + 1, x + pn, by rw [HM.out]; omega, by go_num, by go_num, by rw [HT.out, List.length_append, HX.out, HPM.out]⟩, by simp only [intOf]; omega⟩
    · obtain rfl : j = m := by omega
      have hxN : x = N := by
        have := HX.out
        rwa [List.take_of_length_le (Nat.le_of_eq HM.out), HN.out] at this
      subst hxN
      clear HX hx1
      go_wp2_with (at_make; refine wpList_make_rows _ rfl _ _ 22 rfl 31 (.agg #[.int .i64 0, .int .i64 0, .string ⟨#[]⟩]) #[.int .i64 0, .int .i64 0, .string ⟨#[]⟩] 3 32 Tryd.underlying22 infoV rfl _ _ x rfl rfl (by omega) (by omega) ?_; rw [made_flat'])
      go_loopw [7, 25] (fun a i wr => CvAt2 w ps x w.heap.size a i wr) (fun _ i _ => j - (intOf i).toNat)
      case atStart =>
        refine ⟨0, 0, Nat.zero_le _, rfl, rfl, by simp [allV], (Below.refl _ w).alloc (Nat.le_refl _) _, ?_⟩
        rw [heap_alloc_new]
        simp [allV, flatV]
      case round =>
        obtain ⟨q, y, hq, rfl, rfl, hy, hbl, hcel⟩ := hrel
        rw [HM.out] at hq
        have hy1 := HL.out q
        rw [HN.out, ← hy] at hy1
        by_cases h : q < j
        · have h1 : q < ps.length := by rw [HM.out]; exact h
          have hy2 := HL.out (q + 1)
          rw [HN.out, allV_take h1, List.length_append, ← hy] at hy2
          obtain ⟨b, o, rfl, hb, hc⟩ := (HP.out.grew (Grew.of_below hbl)).at_ (k := q) (by simpa using h1)
          rw [List.getElem_map] at hc
          unfold vpartV at hc
          have HPR := Lib.hid (HS.out _ (List.getElem_mem h1))
          have hfl : (flatV (allV (ps.take q))).length = y * 3 := by rw [flatV_len, hy]
          have HFT := Lib.hid (allV_take h1)
          have HY := Lib.hid hy
          have HBL := Lib.hid hbl
          have HCEL := Lib.hid hcel
          have HFL := Lib.hid hfl
          clear hy hbl hcel hfl
          generalize ps[q] = p at *
          generalize hpm : p.m.length = pn at *
          have HPM := Lib.hid hpm
          have HSP : Hid (splice (flatV (allV (ps.take q)) ++ flatV (List.replicate (x - y) nulV)) (y * 3) (flatV p.m) = flatV (allV (ps.take (q + 1))) ++ flatV (List.replicate (x - (y + pn)) nulV)) := Lib.hid (by
            unfold splice
            rw [HFT.out, flatV_app, flatV_len, HPM.out, List.take_left' HFL.out, List.append_assoc]
            congr 2
            rw [List.drop_append, HFL.out, List.drop_of_length_le (by rw [HFL.out]; omega), List.nil_append, show y * 3 + pn * 3 - y * 3 = pn * 3 by omega, flatV_drop, List.drop_replicate]
            congr 2
            omega)
          have hpn : (flatV p.m).length = pn * 3 := by rw [flatV_len, hpm]
          clear hpm
          have HPV := Lib.hid (flatV_one p.m)
          have hfit : ∀ k, k ≤ pn → y * 3 + k * 3 ≤ (flatV (allV (ps.take q)) ++ flatV (List.replicate (x - y) nulV)).length := fun k hk => by rw [List.length_append, HFL.out, flatV_len, List.length_replicate]; omega
          by_cases hyx : y = x
          · have hp0 : pn = 0 := by omega
            obtain ⟨w2, hcr, hh2, hb2⟩ := run_copy_into (P := Tryd.prog) (T := 22) (ty := 3) (size := 3) (o := y * 3) (dLen := 0) (dCap := 0) (sCap := p.k) (dp := some ⟨w.heap.size, 0, none⟩) Tryd.underlying22 (by kernel_rfl) HCEL.out hpn (by omega) (by omega) (HPR.out.grew (Grew.of_below HBL.out)) (hfit pn (Nat.le_refl _)) HPV.out (by decide) HBL.out (Nat.le_refl _)
            have HB2 := Lib.hid hb2
            have HH2 := Lib.hid hh2
            rw [HSP.out] at HH2
            clear hh2 hb2 hpn hfit
            rw [hp0] at hcr hc hy2
            subst hyx
            go_wp2
            exact ⟨⟨q + 1, y + pn, by rw [HM.out]; omega, by go_num, by rw [hp0]; rfl, by rw [HFT.out, List.length_append, HY.out, HPM.out], HB2.out, HH2.out⟩, by simp only [intOf]; omega⟩
          · have hyx2 : y < x := by omega
            obtain ⟨w2, hcr, hh2, hb2⟩ := run_copy_into (P := Tryd.prog) (T := 22) (ty := 3) (size := 3) (dLen := x - y) (dCap := x - y) (sCap := p.k) (dp := some ⟨w.heap.size, y * 3, none⟩) Tryd.underlying22 (by kernel_rfl) HCEL.out hpn (by omega) (fun _ => rfl) (HPR.out.grew (Grew.of_below HBL.out)) (hfit pn (Nat.le_refl _)) HPV.out (by decide) HBL.out (Nat.le_refl _)
            have HB2 := Lib.hid hb2
            have HH2 := Lib.hid hh2
            rw [HSP.out] at HH2
            clear hh2 hb2 hpn hfit
            go_wp2
            refine ⟨⟨q + 1, y + pn, by rw [HM.out]; omega, by go_num, by go_num, by rw [HFT.out, List.length_append, HY.out, HPM.out], HB2.out, HH2.out⟩, by simp only [intOf]; omega⟩
        · obtain rfl : q = j := by omega
          have hyN : y = x := by
            rwa [List.take_of_length_le (Nat.le_of_eq HM.out), HN.out] at hy
          have hR : ∃ A k, Ending.returned (.slice (some ⟨w.heap.size, 0, none⟩) x x) = Ending.returned (.slice A x k) ∧ Grew w wr ∧ wr.ownsRow w.heap.size 31 3 (.slice A x k) x (flatV (allV ps)) := by
            refine ⟨some ⟨w.heap.size, 0, none⟩, x, rfl, Grew.of_below hbl, ?_⟩
            rw [hyN, Nat.sub_self, List.replicate_zero, List.take_of_length_le (Nat.le_of_eq HM.out)] at hcel
            have e0 : flatV ([] : List Vl) = [] := rfl
            rw [e0, List.append_nil] at hcel
            exact own_whole HN.out hcel (Nat.le_refl _) hN
          have HRR := Lib.hid hR
          clear hR hcel hbl hy hy1
          go_wp2
          go_ret
          exact HRR.out
theorem join_vals (ps : List VPart) (m : Nat) (hm : ps.length = m) (hm1 : m ≤ 1000000) (hN : (allV ps).length ≤ 1000000) (P : Option Addr) (k : Nat) (w : World) (hp : Row w P (ps.map vpartV)) (hps : ∀ p ∈ ps, Row w p.A (flatV p.m)) :
    Calls Tryd.prog 23 #[.slice P m k] w (ValsF w (allV ps)) := by
  have HC := Lib.hid (copied_vals ps m hm hm1 hN P k w hp hps)
  clear hp hps hm
  go_enter Tryd.func23, Tryd.ntmps23
  go_wp2_with fail
  refine HC.out.mono ?_
  rintro e w1 ⟨A, c, rfl, hg, hr⟩
  have HR := Lib.hid hr
  have HG := Lib.hid hg
  clear hr hg HC
  generalize hln : (allV ps).length = ln at *
  have HLn := Lib.hid hln
  clear hln
  go_wp2
  go_ret
  exact ⟨A, c, by rw [HLn.out]; rfl, HG.out, by rw [HLn.out]; exact HR.out⟩
end Go.Proofs.YtklhledcnijchaaDoor

/- rows.Nulls. No condition. -/
namespace Go.Proofs.YtklhledcnijchaaDoor
open Go.RowKit
attribute [local go_sem] more_cell more_frozen more_more more_setCell more_of_drew more_of_drewN lt_more le_more past_cell past_cell2 past_frozen past_frozen2 past_setCell past_setCell2 mid_cell mid_frozen mid_setCell
attribute [local go_sem ↓] Go.wp_at_zero Go.wp_at_succ

def NuAt (w : World) (m : Nat) (g : Nat) (i : Value) (wr : World) : Prop :=
  ∃ j : Nat, j ≤ m ∧ i = .int .i64 j ∧ Below w.heap.size w wr ∧ Blok wr g 31 (flatV (List.replicate m nulV)).toArray
theorem rep_at {m j : Nat} (h : j < m) : ∀ c v, (vcL nulV)[c]? = some v → (flatV (List.replicate m nulV)).toArray[j * 3 + c]? = some v := by
  intro c v hc
  have e : flatV (List.replicate m nulV) = flatV (List.replicate j nulV) ++ (vcL nulV ++ flatV (List.replicate (m - j - 1) nulV)) := by
    have e1 : vcL nulV = flatV [nulV] := by simp [flatV]
    rw [e1, ← flatV_app, ← flatV_app]
    congr 1
    rw [show [nulV] = List.replicate 1 nulV from rfl, List.replicate_append_replicate, List.replicate_append_replicate]
    congr 1
    omega
  have hcl : c < 3 := by
    rcases Nat.lt_or_ge c 3 with h | h
    · exact h
    · rw [List.getElem?_eq_none (show (vcL nulV).length ≤ c from h)] at hc
      cases hc
  have hl : (flatV (List.replicate j nulV)).length = j * 3 := by rw [flatV_len, List.length_replicate]
  rw [List.getElem?_toArray, e, List.getElem?_append_right (by omega), hl, Nat.add_sub_cancel_left, List.getElem?_append_left (by show c < 3; exact hcl)]
  exact hc
theorem set_same {cs : Array Value} {i : Nat} {v : Value} (h : cs[i]? = some v) : cs.setIfInBounds i v = cs := by
  apply Array.ext_getElem?
  intro j
  rw [Array.getElem?_setIfInBounds]
  by_cases hj : i = j
  · subst hj
    have hl : i < cs.size := by
      rcases Nat.lt_or_ge i cs.size with h1 | h1
      · exact h1
      · rw [Array.getElem?_eq_none h1] at h; cases h
    rw [if_pos rfl, if_pos hl, h]
  · rw [if_neg hj]
set_option maxHeartbeats 1000000 in
set_option maxRecDepth 100000 in
theorem nulls_any (n : Int) (m : Nat) (m0 : Int) (h0 : max (0 : Int) n = m0) (hm : min (65536 : Int) m0 = (m : Int)) (w : World) :
    Calls Tryd.prog 22 #[.int .i64 n] w (ValsF w (List.replicate m nulV)) := by
  unfold ValsF
  rw [List.length_replicate]
  have hm1 : m ≤ 65536 := by omega
  go_enter Tryd.func22, Tryd.ntmps22
  go_wp2_with (at_make; refine wpList_make_rows _ rfl _ _ 22 rfl 31 (.agg #[.int .i64 0, .int .i64 0, .string ⟨#[]⟩]) #[.int .i64 0, .int .i64 0, .string ⟨#[]⟩] 3 32 Tryd.underlying22 infoV rfl _ _ m rfl rfl (by omega) (by omega) ?_; rw [made_flat'])
  clear h0 hm
  go_loopw [11] (fun i wr => NuAt w m w.heap.size i wr) (fun i _ => m - (intOf i).toNat)
  case atStart => exact ⟨0, Nat.zero_le _, rfl, (Below.refl _ w).alloc (Nat.le_refl _) _, Blok.new _ _ _ _ rfl⟩
  case round =>
    obtain ⟨j, hj, rfl, hb, hk⟩ := hrel
    have HB := Lib.hid hb
    have HK := Lib.hid hk
    clear hb hk
    by_cases h : j < m
    · have hji : (j : Int) < (m : Int) := by omega
      go_wp2_with fail
      (with_reducible refine (null_any _).grows.mono ?_)
      rintro e w2 ⟨rfl, hg2⟩
      have hk2 := HK.out.grew hg2
      have hb2 : Below w.heap.size w w2 := HB.out.trans ((Grew.below hg2).mono HB.out.size)
      have c0 := hk2.cell (j * 3)
      have c1 := hk2.cell (j * 3 + 1)
      have c2 := hk2.cell (j * 3 + 2)
      have a0 := rep_at h 0 (.int .i64 0) rfl
      have a1 := rep_at h 1 (.int .i64 0) rfl
      have a2 := rep_at h 2 (.string ⟨#[]⟩) rfl
      rw [Nat.add_zero] at a0
      rw [a0] at c0
      rw [a1] at c1
      rw [a2] at c2
      have d0 := hk2.thaw (j * 3)
      have d1 := hk2.thaw (j * 3 + 1)
      have d2 := hk2.thaw (j * 3 + 2)
      have HS : Hid (Blok (((w2.setCell ⟨w.heap.size, j * 3, none⟩ (.int .i64 0)).setCell ⟨w.heap.size, j * 3 + 1, none⟩ (.int .i64 0)).setCell ⟨w.heap.size, j * 3 + 2, none⟩ (.string ⟨#[]⟩)) w.heap.size 31 (flatV (List.replicate m nulV)).toArray) := Lib.hid (by
        have h3 := ((hk2.set (j * 3) (.int .i64 0)).set (j * 3 + 1) (.int .i64 0)).set (j * 3 + 2) (.string ⟨#[]⟩)
        rwa [set_same (i := j * 3) a0, set_same (i := j * 3 + 1) a1, set_same (i := j * 3 + 2) a2] at h3)
      have HBs : Hid (Below w.heap.size w (((w2.setCell ⟨w.heap.size, j * 3, none⟩ (.int .i64 0)).setCell ⟨w.heap.size, j * 3 + 1, none⟩ (.int .i64 0)).setCell ⟨w.heap.size, j * 3 + 2, none⟩ (.string ⟨#[]⟩))) := Lib.hid (((hb2.setCell (p := ⟨w.heap.size, j * 3, none⟩) (Nat.le_refl _) _).setCell (p := ⟨w.heap.size, j * 3 + 1, none⟩) (Nat.le_refl _) _).setCell (p := ⟨w.heap.size, j * 3 + 2, none⟩) (Nat.le_refl _) _)
      clear a0 a1 a2 hk2 hb2 hg2
      go_wp2
      exact ⟨⟨j + 1, by omega, by go_num, HBs.out, HS.out⟩, by simp only [intOf]; omega⟩
    · obtain rfl : j = m := by omega
      go_wp2
      go_ret
      exact ⟨some ⟨w.heap.size, 0, none⟩, j, rfl, Grew.of_below HB.out, own_whole (List.length_replicate ..) HK.out (Nat.le_refl _) (by omega)⟩
end Go.Proofs.YtklhledcnijchaaDoor

/- Some values of a row: rows.Pick, and the document's. Condition: no more than a million places. -/
namespace Go.Proofs.YtklhledcnijchaaDoor
open Go.RowKit
attribute [local go_sem] more_cell more_frozen more_more more_setCell more_of_drew more_of_drewN lt_more le_more past_cell past_cell2 past_frozen past_frozen2 past_setCell past_setCell2 mid_cell mid_frozen mid_setCell
attribute [local go_sem ↓] Go.wp_at_zero Go.wp_at_succ

/-- The value at a place, null where there is none. -/
def pickV (r : List Vl) (p : Int) : Vl := if 0 ≤ p ∧ p < r.length then r.getD p.toNat nulV else nulV
def pickL (r : List Vl) (ps : List Int) : List Vl := ps.map (pickV r)
theorem pickL_len (r : List Vl) (ps : List Int) : (pickL r ps).length = ps.length := by simp [pickL]
theorem pickL_snoc {r : List Vl} {ps : List Int} {j : Nat} (h : j < ps.length) : pickL r (ps.take (j + 1)) = pickL r (ps.take j) ++ [pickV r ps[j]] := by
  unfold pickL
  rw [List.take_succ_eq_append_getElem h, List.map_append]
  rfl
theorem pickV_in {r : List Vl} {p : Nat} (h : p < r.length) : pickV r p = r[p] := by
  unfold pickV
  rw [if_pos ⟨by omega, by omega⟩, Int.toNat_natCast, List.getD_eq_getElem?_getD, List.getElem?_eq_getElem h]
  rfl
theorem pickV_out {r : List Vl} {p : Int} (h : ¬ (0 ≤ p ∧ p < r.length)) : pickV r p = nulV := if_neg h
theorem own_thus {w w' : World} {base : Nat} {e : TypeId} {size n : Nat} {v : Value} {xs : List Value} (h : w.ownsRow base e size v n xs) (g : Grew w w') : w'.ownsRow base e size v n xs := by
  obtain ⟨x, rfl⟩ := g
  exact own_more h x
def PkAt (w : World) (r : List Vl) (ps : List Int) (v i : Value) (wr : World) : Prop :=
  ∃ (j : Nat) (A : Option Addr) (c : Nat), j ≤ ps.length ∧ i = .int .i64 j ∧ v = .slice A j c ∧ Grew w wr ∧ wr.ownsRow w.heap.size 31 3 (.slice A j c) j (flatV (pickL r (ps.take j)))
set_option maxHeartbeats 4000000 in
set_option maxRecDepth 100000 in
theorem pick_any (r : List Vl) (ps : List Int) (hp : ps.length ≤ 1000000) (A B : Option Addr) (k c : Nat) (w : World) (ra : VlsR (PRow w) A r) (rb : Row w B (iV ps)) :
    Calls Tryd.prog 20 #[.slice A r.length k, .slice B ps.length c] w (ValsF w (pickL r ps)) := by
  have RA := Lib.hid ra
  have RB := Lib.hid rb
  unfold ValsF
  rw [pickL_len]
  have HN := Lib.hid (nulls_any 0 0 0 (by decide) (by decide) w)
  clear ra rb
  go_enter Tryd.func20, Tryd.ntmps20
  go_wp2_with fail
  refine HN.out.mono ?_
  rintro e w1 ⟨A1, c1, rfl, hg1, ho1⟩
  have HG1 := Lib.hid hg1
  have HO1 := Lib.hid ho1
  clear hg1 ho1 HN
  rw [List.length_replicate] at HO1 ⊢
  go_wp2
  go_loopw [5, 12] (fun v i wr => PkAt w r ps v i wr) (fun _ i _ => ps.length - (intOf i).toNat)
  case atStart => exact ⟨0, A1, c1, Nat.zero_le _, rfl, rfl, HG1.out, HO1.out⟩
  case round =>
    obtain ⟨j, A2, c2, hj, rfl, rfl, hg, ho⟩ := hrel
    have HG := Lib.hid hg
    have HO := Lib.hid ho
    clear hg ho HG1 HO1
    by_cases h : j < ps.length
    · have hji : (j : Int) < (ps.length : Int) := by omega
      obtain ⟨pb, po, rfl, hpb, hpc'⟩ := (RB.out.grew HG.out).at_ (k := j) (by simp [iV, h])
      have hpc : wr.cell? ⟨pb, po + j, none⟩ = some (.int .i64 ps[j]) := by rw [hpc']; simp [iV]
      have HSn := Lib.hid (pickL_snoc (r := r) h)
      clear hpc'
      generalize ps[j] = p at *
      go_upto_region 6 with (go_at_call 55; (with_reducible refine (null_any _).grows.mono ?_); rintro e w2 ⟨rfl, hg2⟩; have HG2 := Lib.hid hg2; clear hg2)
      have HF : Hid (∀ (x : Vl), pickV r p = x → ∀ A3 c3 w3, w3.ownsRow w.heap.size 31 3 (.slice A3 (j + 1) c3) (j + 1) (flatV (pickL r (ps.take j)) ++ [.int .i64 x.k, .int .i64 x.i, .string x.s]) → Grew w w3 → PkAt w r ps (.slice A3 (j + 1) c3) (.int .i64 ((j : Int) + 1)) w3) := Lib.hid fun x hx A3 c3 w3 h1 h2 => ⟨j + 1, A3, c3, by omega, by go_num, rfl, h2, by rw [HSn.out, hx, ← flatV_snoc]; exact h1⟩
      obtain ⟨W3, hW3⟩ : ∃ W3, w2.alloc (.cells #[.int .i64 0, .int .i64 0, .string ⟨#[]⟩] 31) = W3 := ⟨_, rfl⟩
      have HB3 : Hid (Blok W3 w2.heap.size 31 #[.int .i64 0, .int .i64 0, .string ⟨#[]⟩]) := Lib.hid (by rw [← hW3]; exact Blok.new _ _ _ _ rfl)
      have HG3 : Hid (Grew wr W3) := Lib.hid (by rw [← hW3]; exact HG2.out.alloc _)
      have hgs := HG2.out.size
      rw [hW3]
      clear hW3 HG2
      generalize w2.heap.size = g at *
      by_cases hin : 0 ≤ p ∧ p < (r.length : Int)
      · obtain ⟨q, rfl⟩ : ∃ q : Nat, p = q := ⟨p.toNat, by omega⟩
        obtain ⟨hin0, hin1⟩ := hin
        have hq : q < r.length := by omega
        have f0 : decide ((0 : Int) ≤ (q : Int)) = true := decide_eq_true hin0
        have f1 : decide ((q : Int) < (r.length : Int)) = true := decide_eq_true hin1
        obtain ⟨rb', ro, rfl, hrb, d0, d1, d2⟩ := vlsR_at (RA.out.grew (HG.out.trans HG3.out)) hq
        have HF := Lib.hid (HF.out _ (pickV_in hq))
        obtain ⟨_, z0, z1, z2, y0, y1, y2⟩ := val_in HB3.out
        clear HSn
        generalize hxk : r[q] = x at *
        obtain ⟨xk, xi, xs⟩ := x
        simp only at d0 d1 d2 HF
        clear hxk
        go_upto_region 8 with fail
        have HB4 := Lib.hid (val_set HB3.out (.int .i64 xk) (.int .i64 xi) (.string xs))
        have HG4 := Lib.hid (grew_set3 HG3.out hgs (.int .i64 xk) (.int .i64 xi) (.string xs))
        generalize (((W3.setCell ⟨g, 0, none⟩ (.int .i64 xk)).setCell ⟨g, 1, none⟩ (.int .i64 xi)).setCell ⟨g, 2, none⟩ (.string xs)) = W4 at *
        have HO4 := Lib.hid (own_thus HO.out HG4.out)
        clear z0 z1 z2 y0 y1 y2 d0 d1 d2 HB3 HG3 RA HO
        generalize flatV (pickL r (ps.take j)) = M at *
        obtain ⟨_, e0, e1, e2, _, _, _⟩ := val_in HB4.out
        go_wp2_with (at_builtin; refine wpList_apps rfl (.tmp 29) (.tmp 31) 22 31 3 rfl w (.agg #[.int .i64 0, .int .i64 0, .string ⟨#[]⟩]) 32 Tryd.underlying22 infoV rfl (by decide) (by decide) _ _ _ rfl (own_alloc HO4.out _) _ 1 1 [.int .i64 xk, .int .i64 xi, .string xs] rfl rfl (row_new _ _ _ _ rfl) (by simp [Value.oneCell']) (by omega) ((HG.out.trans HG4.out).alloc _) ?_; intro A3 c3 w3 ho3 _ hg3 _ _; have HX := Lib.hid (HF.out A3 c3 w3 ho3 hg3); clear ho3 hg3)
        exact ⟨HX.out, by simp only [intOf]; omega⟩
      · have HF := Lib.hid (HF.out _ (pickV_out hin))
        unfold nulV at HF
        simp only at HF
        have HB4 := HB3
        have HG4 := HG3
        have HO4 := Lib.hid (own_thus HO.out HG4.out)
        clear HB3 HG3 RA HO HSn
        generalize flatV (pickL r (ps.take j)) = M at *
        by_cases hp0 : 0 ≤ p
        · have f0 : decide ((0 : Int) ≤ p) = true := decide_eq_true hp0
          have f1 : decide (p < (r.length : Int)) = false := decide_eq_false (fun h => hin ⟨hp0, h⟩)
          obtain ⟨_, e0, e1, e2, _, _, _⟩ := val_in HB4.out
          go_wp2_with (at_builtin; refine wpList_apps rfl (.tmp 29) (.tmp 31) 22 31 3 rfl w (.agg #[.int .i64 0, .int .i64 0, .string ⟨#[]⟩]) 32 Tryd.underlying22 infoV rfl (by decide) (by decide) _ _ _ rfl (own_alloc HO4.out _) _ 1 1 [.int .i64 0, .int .i64 0, .string ⟨#[]⟩] rfl rfl (row_new _ _ _ _ rfl) (by simp [Value.oneCell']) (by omega) ((HG.out.trans HG4.out).alloc _) ?_; intro A3 c3 w3 ho3 _ hg3 _ _; have HX := Lib.hid (HF.out A3 c3 w3 ho3 hg3); clear ho3 hg3)
          exact ⟨HX.out, by simp only [intOf]; omega⟩
        · have f0 : decide ((0 : Int) ≤ p) = false := decide_eq_false hp0
          obtain ⟨_, e0, e1, e2, _, _, _⟩ := val_in HB4.out
          go_wp2_with (at_builtin; refine wpList_apps rfl (.tmp 29) (.tmp 31) 22 31 3 rfl w (.agg #[.int .i64 0, .int .i64 0, .string ⟨#[]⟩]) 32 Tryd.underlying22 infoV rfl (by decide) (by decide) _ _ _ rfl (own_alloc HO4.out _) _ 1 1 [.int .i64 0, .int .i64 0, .string ⟨#[]⟩] rfl rfl (row_new _ _ _ _ rfl) (by simp [Value.oneCell']) (by omega) ((HG.out.trans HG4.out).alloc _) ?_; intro A3 c3 w3 ho3 _ hg3 _ _; have HX := Lib.hid (HF.out A3 c3 w3 ho3 hg3); clear ho3 hg3)
          exact ⟨HX.out, by simp only [intOf]; omega⟩
    · obtain rfl : j = ps.length := by omega
      rw [List.take_length] at HO
      go_wp2
      go_ret
      exact ⟨A2, c2, rfl, HG.out, HO.out⟩
set_option maxHeartbeats 4000000 in
set_option maxRecDepth 100000 in
theorem rpick_any (r : List Vl) (ps : List Int) (hp : ps.length ≤ 1000000) (A B : Option Addr) (k c : Nat) (w : World) (ra : VlsR (PRow w) A r) (rb : Row w B (iV ps)) :
    Calls Tryd.prog 21 #[.slice A r.length k, .slice B ps.length c] w (ValsF w (pickL r ps)) := by
  have RA := Lib.hid ra
  have RB := Lib.hid rb
  unfold ValsF
  rw [pickL_len]
  clear ra rb
  go_enter Tryd.func21, Tryd.ntmps21
  go_wp2
  go_loopw [5, 6] (fun v i wr => PkAt w r ps v i wr) (fun _ i _ => ps.length - (intOf i).toNat)
  case atStart => exact ⟨0, none, 0, Nat.zero_le _, rfl, rfl, Grew.refl w, own_none w _ _ 3⟩
  case round =>
    obtain ⟨j, A2, c2, hj, rfl, rfl, hg, ho⟩ := hrel
    have HG := Lib.hid hg
    have HO := Lib.hid ho
    clear hg ho
    by_cases h : j < ps.length
    · have hji : (j : Int) < (ps.length : Int) := by omega
      obtain ⟨pb, po, rfl, hpb, hpc'⟩ := (RB.out.grew HG.out).at_ (k := j) (by simp [iV, h])
      have hpc : wr.cell? ⟨pb, po + j, none⟩ = some (.int .i64 ps[j]) := by rw [hpc']; simp [iV]
      have HSn := Lib.hid (pickL_snoc (r := r) h)
      clear hpc'
      generalize ps[j] = p at *
      go_upto_region 6 with fail
      have HF : Hid (∀ (x : Vl), pickV r p = x → ∀ A3 c3 w3, w3.ownsRow w.heap.size 31 3 (.slice A3 (j + 1) c3) (j + 1) (flatV (pickL r (ps.take j)) ++ [.int .i64 x.k, .int .i64 x.i, .string x.s]) → Grew w w3 → PkAt w r ps (.slice A3 (j + 1) c3) (.int .i64 ((j : Int) + 1)) w3) := Lib.hid fun x hx A3 c3 w3 h1 h2 => ⟨j + 1, A3, c3, by omega, by go_num, rfl, h2, by rw [HSn.out, hx, ← flatV_snoc]; exact h1⟩
      obtain ⟨W3, hW3⟩ : ∃ W3, wr.alloc (.cells #[.int .i64 0, .int .i64 0, .string ⟨#[]⟩] 31) = W3 := ⟨_, rfl⟩
      have HB3 : Hid (Blok W3 wr.heap.size 31 #[.int .i64 0, .int .i64 0, .string ⟨#[]⟩]) := Lib.hid (by rw [← hW3]; exact Blok.new _ _ _ _ rfl)
      have HG3 : Hid (Grew wr W3) := Lib.hid (by rw [← hW3]; exact (Grew.refl wr).alloc _)
      have hpc3 := (HG3.out.cell (a := ⟨pb, po + j, none⟩) hpb).trans hpc
      have hpb3 := Nat.lt_of_lt_of_le hpb HG3.out.size
      have hgs : wr.heap.size ≤ wr.heap.size := Nat.le_refl _
      rw [hW3]
      clear hW3 hpc hpb
      have HGw := Lib.hid hgs
      clear hgs
      have hgs := HGw.out
      obtain ⟨g, hg⟩ : ∃ g, wr.heap.size = g := ⟨_, rfl⟩
      rw [hg] at HB3 ⊢
      have HGs : Hid (wr.heap.size ≤ g) := Lib.hid (Nat.le_of_eq hg)
      clear hg hgs HGw
      by_cases hin : 0 ≤ p ∧ p < (r.length : Int)
      · obtain ⟨q, rfl⟩ : ∃ q : Nat, p = q := ⟨p.toNat, by omega⟩
        obtain ⟨hin0, hin1⟩ := hin
        have hq : q < r.length := by omega
        have f0 : decide ((0 : Int) ≤ (q : Int)) = true := decide_eq_true hin0
        have f1 : decide ((q : Int) < (r.length : Int)) = true := decide_eq_true hin1
        obtain ⟨rb', ro, rfl, hrb, d0, d1, d2⟩ := vlsR_at (RA.out.grew (HG.out.trans HG3.out)) hq
        have HF := Lib.hid (HF.out _ (pickV_in hq))
        obtain ⟨_, z0, z1, z2, y0, y1, y2⟩ := val_in HB3.out
        clear HSn
        generalize hxk : r[q] = x at *
        obtain ⟨xk, xi, xs⟩ := x
        simp only at d0 d1 d2 HF
        clear hxk
        go_upto_region 8 with fail
        have HB4 := Lib.hid (val_set HB3.out (.int .i64 xk) (.int .i64 xi) (.string xs))
        have HG4 := Lib.hid (grew_set3 HG3.out HGs.out (.int .i64 xk) (.int .i64 xi) (.string xs))
        generalize (((W3.setCell ⟨g, 0, none⟩ (.int .i64 xk)).setCell ⟨g, 1, none⟩ (.int .i64 xi)).setCell ⟨g, 2, none⟩ (.string xs)) = W4 at *
        have HO4 := Lib.hid (own_thus HO.out HG4.out)
        clear z0 z1 z2 y0 y1 y2 d0 d1 d2 HB3 HG3 RA HO
        generalize flatV (pickL r (ps.take j)) = M at *
        obtain ⟨_, e0, e1, e2, _, _, _⟩ := val_in HB4.out
        go_wp2_with (at_builtin; refine wpList_apps rfl (.tmp 36) (.tmp 38) 22 31 3 rfl w (.agg #[.int .i64 0, .int .i64 0, .string ⟨#[]⟩]) 32 Tryd.underlying22 infoV rfl (by decide) (by decide) _ _ _ rfl (own_alloc HO4.out _) _ 1 1 [.int .i64 xk, .int .i64 xi, .string xs] rfl rfl (row_new _ _ _ _ rfl) (by simp [Value.oneCell']) (by omega) ((HG.out.trans HG4.out).alloc _) ?_; intro A3 c3 w3 ho3 _ hg3 _ _; have HX := Lib.hid (HF.out A3 c3 w3 ho3 hg3); clear ho3 hg3)
        exact ⟨HX.out, by simp only [intOf]; omega⟩
      · have HF := Lib.hid (HF.out _ (pickV_out hin))
        unfold nulV at HF
        simp only at HF
        have HB4 := HB3
        have HG4 := HG3
        have HO4 := Lib.hid (own_thus HO.out HG4.out)
        clear HB3 HG3 RA HO HSn
        generalize flatV (pickL r (ps.take j)) = M at *
        by_cases hp0 : 0 ≤ p
        · have f0 : decide ((0 : Int) ≤ p) = true := decide_eq_true hp0
          have f1 : decide (p < (r.length : Int)) = false := decide_eq_false (fun h => hin ⟨hp0, h⟩)
          obtain ⟨_, e0, e1, e2, _, _, _⟩ := val_in HB4.out
          go_wp2_with (at_builtin; refine wpList_apps rfl (.tmp 36) (.tmp 38) 22 31 3 rfl w (.agg #[.int .i64 0, .int .i64 0, .string ⟨#[]⟩]) 32 Tryd.underlying22 infoV rfl (by decide) (by decide) _ _ _ rfl (own_alloc HO4.out _) _ 1 1 [.int .i64 0, .int .i64 0, .string ⟨#[]⟩] rfl rfl (row_new _ _ _ _ rfl) (by simp [Value.oneCell']) (by omega) ((HG.out.trans HG4.out).alloc _) ?_; intro A3 c3 w3 ho3 _ hg3 _ _; have HX := Lib.hid (HF.out A3 c3 w3 ho3 hg3); clear ho3 hg3)
          exact ⟨HX.out, by simp only [intOf]; omega⟩
        · have f0 : decide ((0 : Int) ≤ p) = false := decide_eq_false hp0
          obtain ⟨_, e0, e1, e2, _, _, _⟩ := val_in HB4.out
          go_wp2_with (at_builtin; refine wpList_apps rfl (.tmp 36) (.tmp 38) 22 31 3 rfl w (.agg #[.int .i64 0, .int .i64 0, .string ⟨#[]⟩]) 32 Tryd.underlying22 infoV rfl (by decide) (by decide) _ _ _ rfl (own_alloc HO4.out _) _ 1 1 [.int .i64 0, .int .i64 0, .string ⟨#[]⟩] rfl rfl (row_new _ _ _ _ rfl) (by simp [Value.oneCell']) (by omega) ((HG.out.trans HG4.out).alloc _) ?_; intro A3 c3 w3 ho3 _ hg3 _ _; have HX := Lib.hid (HF.out A3 c3 w3 ho3 hg3); clear ho3 hg3)
          exact ⟨HX.out, by simp only [intOf]; omega⟩
    · obtain rfl : j = ps.length := by omega
      rw [List.take_length] at HO
      go_wp2
      go_ret
      exact ⟨A2, c2, rfl, HG.out, HO.out⟩
end Go.Proofs.YtklhledcnijchaaDoor

/- Layer 20: new filters; which keys pass; the page's example. Condition: rows that lie in memory that is there; keys that are not much; the library's table of powers. -/
namespace Go.Proofs.YtklhledcnijchaaDoor
open Go.RowKit
attribute [local go_sem] more_cell more_frozen more_more more_setCell more_of_drew more_of_drewN lt_more le_more past_cell past_cell2 past_frozen past_frozen2 past_setCell past_setCell2 mid_cell mid_frozen mid_setCell
attribute [local go_sem ↓] Go.wp_at_zero Go.wp_at_succ

/-- A new filter. -/
def newF (seed words bits : Int) : Sf := ⟨List.replicate (clampN words 4096) 0, clampN bits 5, [], seed, 0⟩
set_option maxHeartbeats 1000000 in
theorem snew_any (seed words bits : Int) (w : World) : Calls Tryd.prog 36 #[.int .i64 seed, .int .i64 words, .int .i64 bits] w (SfF w (newF seed words bits)) := by
  obtain ⟨u0, hu0⟩ : ∃ u0, w.alloc (.cells #[.slice none 0 0, .int .i64 0, .slice none 0 0, .int .i64 0, .int .i64 0] 49) = u0 := ⟨_, rfl⟩
  obtain ⟨gB, hgB⟩ : ∃ gB, w.heap.size = gB := ⟨_, rfl⟩
  have HgE := Lib.hid hgB
  have HgB : Hid (w.heap.size ≤ gB) := Lib.hid (Nat.le_of_eq hgB)
  have HB0 : Hid (Blok u0 gB 49 #[.slice none 0 0, .int .i64 0, .slice none 0 0, .int .i64 0, .int .i64 0]) := Lib.hid (by rw [← hu0, ← hgB]; exact Blok.new _ _ _ _ rfl)
  have HGu : Hid (Grew w u0) := Lib.hid (by rw [← hu0]; exact (Grew.refl w).alloc _)
  have Hu0 := Lib.hid hu0
  have HN := Lib.hid (bnew_any words bits u0)
  have hl : (List.replicate (clampN words 4096) 0).length = clampN words 4096 := List.length_replicate
  have hpos := (clamp_le words 4096 (by decide)).2
  clear hu0 hgB
  go_enter Tryd.func36, Tryd.ntmps36
  go_wp2_with fail
  rw [Hu0.out, HgE.out]
  clear HgE
  refine HN.out.mono ?_
  rintro e w1 ⟨g, c, rfl, hg1, hur⟩
  rw [hl]
  have HG1 := Lib.hid (HGu.out.trans hg1)
  have hb1 := HB0.out.grew hg1
  have c0 : w1.cell? ⟨g, 0, none⟩ = some (.int .u64 0) := by
    have := row_cells hur 0 (.int .u64 0) (by rw [List.getElem?_map, List.getElem?_replicate, if_pos (by omega)]; rfl)
    simpa using this
  have hgn : g ≠ gB := by
    intro e
    subst e
    have := hb1.cell 0
    rw [c0] at this
    simp at this
  obtain ⟨n, hn⟩ : ∃ n, clampN words 4096 = n := ⟨_, rfl⟩
  have HP : Hid (∀ W, Grew w W → URow W (some ⟨g, 0, none⟩) (List.replicate (clampN words 4096) 0) → SfF w (newF seed words bits) (.returned (.agg #[.slice (some ⟨g, 0, none⟩) n c, .int .i64 (clampN bits 5 : Nat), .slice none 0 0, .int .i64 seed, .int .i64 0])) W) := Lib.hid fun W h1 h2 => ⟨g, c, none, 0, by rw [← hn]; unfold sfC newF; rw [hl]; rfl, h1, h2, Or.inl rfl⟩
  have HUR := Lib.hid hur
  have HB1 := Lib.hid hb1
  have m0 := hb1.cell 0
  have m1 := hb1.cell 1
  have m2 := hb1.cell 2
  have m3 := hb1.cell 3
  have m4 := hb1.cell 4
  simp at m0 m1 m2 m3 m4
  have x0 := hb1.thaw 0
  have x1 := hb1.thaw 1
  have x2 := hb1.thaw 2
  have x3 := hb1.thaw 3
  have x4 := hb1.thaw 4
  have hbl := hb1.lt
  have HGn := Lib.hid hgn
  rw [hn]
  clear hur hb1 hg1 c0 hgn hn hl hpos HB0 Hu0 HN
  obtain ⟨kk, hkk⟩ : ∃ kk, clampN bits 5 = kk := ⟨_, rfl⟩
  rw [hkk] at HP ⊢
  clear hkk
  have hU7 : URow (((((w1.setCell ⟨gB, 0, none⟩ (.slice (some ⟨g, 0, none⟩) n c)).setCell ⟨gB, 1, none⟩ (.int .i64 kk)).setCell ⟨gB, 2, none⟩ (.slice none 0 0)).setCell ⟨gB, 3, none⟩ (.int .i64 seed)).setCell ⟨gB, 4, none⟩ (.int .i64 0)) (some ⟨g, 0, none⟩) (List.replicate (clampN words 4096) 0) := by
    have f0 : ∀ {w' : World} {p : Nat} {v : Value}, URow w' (some ⟨g, 0, none⟩) (List.replicate (clampN words 4096) 0) → URow (w'.setCell ⟨gB, p, none⟩ v) (some ⟨g, 0, none⟩) (List.replicate (clampN words 4096) 0) := fun h => Row.turns h ((Turns.refl _ _).set _ _) (fun a ha => by injection ha with ha; subst ha; exact HGn.out)
    exact f0 (f0 (f0 (f0 (f0 HUR.out))))
  have hG7 : Grew w (((((w1.setCell ⟨gB, 0, none⟩ (.slice (some ⟨g, 0, none⟩) n c)).setCell ⟨gB, 1, none⟩ (.int .i64 kk)).setCell ⟨gB, 2, none⟩ (.slice none 0 0)).setCell ⟨gB, 3, none⟩ (.int .i64 seed)).setCell ⟨gB, 4, none⟩ (.int .i64 0)) := Grew.setCell (Grew.setCell (Grew.setCell (Grew.setCell (Grew.setCell HG1.out HgB.out _) HgB.out _) HgB.out _) HgB.out _) HgB.out _
  have hB7 := Lib.hid (((((HB1.out.set 0 (.slice (some ⟨g, 0, none⟩) n c)).set 1 (.int .i64 kk)).set 2 (.slice none 0 0)).set 3 (.int .i64 seed)).set 4 (.int .i64 0))
  have HPost := Lib.hid (HP.out _ hG7 hU7)
  clear hU7 hG7 HP HUR HB1 HGn HgB HG1 HGu
  go_wp2
  have r0 := hB7.out.cell 0
  have r1 := hB7.out.cell 1
  have r2 := hB7.out.cell 2
  have r3 := hB7.out.cell 3
  have r4 := hB7.out.cell 4
  simp at r0 r1 r2 r3 r4
  exact bodyPost_ret (v := .agg #[.slice (some ⟨g, 0, none⟩) n c, .int .i64 kk, .slice none 0 0, .int .i64 seed, .int .i64 0]) (by simp [results, Tryd.results36, go_sem, r0, r1, r2, r3, r4]) rfl HPost.out
theorem scount_any (A B : Option Addr) (n c m d : Nat) (k seed cnt : Int) (w : World) : Gives Tryd.prog 34 #[.agg #[.slice A n c, .int .i64 k, .slice B m d, .int .i64 seed, .int .i64 cnt]] w (.int .i64 cnt) := by
  unfold Gives
  go_enter Tryd.func34, Tryd.ntmps34
  go_wp2
  go_ret
  exact ⟨rfl, by (show Grew _ _; repeat (first | exact Grew.refl _ | refine Grew.alloc ?_ _ | refine Grew.drew ?_ | refine Grew.more ?_ _))⟩
theorem skey_any (r : List Vl) (ps : List Int) (hp : ps.length ≤ 1000000) (A B : Option Addr) (k c : Nat) (w : World) (ra : VlsR (PRow w) A r) (rb : Row w B (iV ps)) :
    Calls Tryd.prog 31 #[.slice A r.length k, .slice B ps.length c] w (ValsF w (pickL r ps)) := by
  have HP := Lib.hid (pick_any r ps hp A B k c w ra rb)
  obtain ⟨ln, hln⟩ : ∃ ln, (pickL r ps).length = ln := ⟨_, rfl⟩
  unfold ValsF at HP ⊢
  rw [hln] at HP ⊢
  clear ra rb hln
  go_enter Tryd.func31, Tryd.ntmps31
  go_wp2_with fail
  refine HP.out.mono ?_
  rintro e w1 ⟨A1, c1, rfl, hg1, ho1⟩
  have HG1 := Lib.hid hg1
  have HO1 := Lib.hid ho1
  clear hg1 ho1 HP
  go_wp2
  go_ret
  exact ⟨A1, c1, rfl, HG1.out, HO1.out⟩
set_option maxHeartbeats 4000000 in
set_option maxRecDepth 100000 in
theorem passes_gen (Xa : Option Addr) (Xn Xc : Nat) (k seed cnt : Int) (ss : List S) (key : List Vl) (S0 A : Option Addr) (cS kA : Nat) (tH : Bool) (hl : key.length ≤ 1000) (hz : ∀ v ∈ key, v.s.size ≤ 3000) (hk : (keyRowL key).length ≤ 1000000) (w : World) (rs : Row w S0 (flatS ss)) (ra : VlsR (PRow w) A key) (htab : Lib.TabIs Tryd.prog w "internal/strconv.uint64pow10" .u64 Lib.pow10Tab)
    (hH : ∀ W, Grew w W → Gives Tryd.prog 61 #[.agg #[.slice Xa Xn Xc, .int .i64 k], .int .u64 (hashN seed key : Nat)] W (.bool tH)) :
    Gives Tryd.prog 32 #[.agg #[.slice Xa Xn Xc, .int .i64 k, .slice S0 ss.length cS, .int .i64 seed, .int .i64 cnt], .slice A key.length kA] w (.bool (wholeV key && (haveS ss key && tH))) := by
  obtain ⟨u0, hu0⟩ : ∃ u0, w.alloc (.cells #[.slice Xa Xn Xc, .int .i64 k, .slice S0 ss.length cS, .int .i64 seed, .int .i64 cnt] 49) = u0 := ⟨_, rfl⟩
  have HB0 : Hid (Blok u0 w.heap.size 49 #[.slice Xa Xn Xc, .int .i64 k, .slice S0 ss.length cS, .int .i64 seed, .int .i64 cnt]) := Lib.hid (by rw [← hu0]; exact Blok.new _ _ _ _ rfl)
  have HGu : Hid (Grew w u0) := Lib.hid (by rw [← hu0]; exact (Grew.refl w).alloc _)
  have Hu0 := Lib.hid hu0
  have HW : Hid (∀ W, Grew u0 W → Gives Tryd.prog 59 #[.slice A key.length kA] W (.bool (wholeV key))) := Lib.hid fun W hW => whole_any key (by omega) A kA W (ra.grew (HGu.out.trans hW))
  have HHv : Hid (∀ W, Grew u0 W → Gives Tryd.prog 60 #[.slice S0 ss.length cS, .slice A key.length kA] W (.bool (haveS ss key))) := Lib.hid fun W hW => have_any ss key (by omega) S0 A cS kA W (rs.grew (HGu.out.trans hW)) (ra.grew (HGu.out.trans hW))
  have HR : Hid (∀ W, Grew u0 W → Gives Tryd.prog 62 #[.int .i64 seed, .slice A key.length kA] W (.int .u64 (hashN seed key : Nat))) := Lib.hid fun W hW => by
    rw [(hashN_is seed key).1]
    exact row17_any seed key hl hz hk A kA W (ra.grew (HGu.out.trans hW)) (tab_grew htab (HGu.out.trans hW))
  have HH : Hid (∀ W, Grew u0 W → Gives Tryd.prog 61 #[.agg #[.slice Xa Xn Xc, .int .i64 k], .int .u64 (hashN seed key : Nat)] W (.bool tH)) := Lib.hid fun W hW => hH W (HGu.out.trans hW)
  obtain ⟨gB, hgB⟩ : ∃ gB, w.heap.size = gB := ⟨_, rfl⟩
  have HgB := Lib.hid hgB
  rw [hgB] at HB0
  have HCs : Hid (∀ W, Grew u0 W → gB < W.heap.size ∧ W.cell? ⟨gB, 0, none⟩ = some (.slice Xa Xn Xc) ∧ W.cell? ⟨gB, 1, none⟩ = some (.int .i64 k) ∧ W.cell? ⟨gB, 2, none⟩ = some (.slice S0 ss.length cS) ∧ W.cell? ⟨gB, 3, none⟩ = some (.int .i64 seed)) := Lib.hid fun W hW => ⟨(HB0.out.grew hW).lt, (HB0.out.grew hW).cell 0, (HB0.out.grew hW).cell 1, (HB0.out.grew hW).cell 2, (HB0.out.grew hW).cell 3⟩
  clear hu0 hgB rs ra htab hH hz hk
  generalize hashN seed key = hh at *
  generalize wholeV key = tw at *
  generalize haveS ss key = th at *
  unfold Gives
  go_enter Tryd.func32, Tryd.ntmps32
  go_upto_region 1 with fail
  rw [Hu0.out, HgB.out]
  clear Hu0 HgB
  cases tw
  · skip
    refine wp_region_S (fun W => Grew u0 W) (by kernel_rfl) ?_
    refine held_take 0 (v := ?_) rfl (by kernel_rfl) (by kernel_rfl) (by kernel_rfl) (fun _ _ _ h => h) (by rfl) ?_ (Grew.refl u0).drew ?_
    rotate_left
    · (intro W hW; go_simp; with_reducible rfl)
    refine held_norm (a' := ?_) ?_ ?_
    rotate_left
    · (go_simp; with_reducible rfl)
    refine held_call 1 (by kernel_rfl) rfl (by rfl) (fun K hK => ?_)
    go_simp
    go_wp2_with (go_at_call 59; (with_reducible refine (HW.out _ (Grew.refl u0).drew).grows.mono ?_); rintro e w2 ⟨rfl, hg2⟩; have HG2 := Lib.hid (show Grew u0 w2 from ((Grew.refl u0).drew).trans hg2); clear hg2)
    refine hK.out _ _ HG2.out ?_
    clear hK K
    refine held_take 2 (v := ?_) rfl (by kernel_rfl) (by kernel_rfl) (by kernel_rfl) (fun _ _ _ h => h) (by rfl) ?_ HG2.out ?_
    rotate_left
    · (intro W hW; go_simp; with_reducible rfl)
    refine held_norm (a' := ?_) ?_ ?_
    rotate_left
    · (go_simp; with_reducible rfl)
    refine held_skip 3 rfl (by kernel_rfl) (by kernel_rfl) (by kernel_rfl) (fun _ _ _ h => h) (by rfl) HG2.out ?_
    refine held_norm (a' := ?_) ?_ ?_
    rotate_left
    · (go_simp; with_reducible rfl)
    refine held_skip 4 rfl (by kernel_rfl) (by kernel_rfl) (by kernel_rfl) (fun _ _ _ h => h) (by rfl) HG2.out ?_
    refine held_norm (a' := ?_) ?_ ?_
    rotate_left
    · (go_simp; with_reducible rfl)
    refine held_skip 5 rfl (by kernel_rfl) (by kernel_rfl) (by kernel_rfl) (fun _ _ _ h => h) (by rfl) HG2.out ?_
    refine held_norm (a' := ?_) ?_ ?_
    rotate_left
    · (go_simp; with_reducible rfl)
    refine held_skip 6 rfl (by kernel_rfl) (by kernel_rfl) (by kernel_rfl) (fun _ _ _ h => h) (by rfl) HG2.out ?_
    refine held_norm (a' := ?_) ?_ ?_
    rotate_left
    · (go_simp; with_reducible rfl)
    refine held_take 7 (v := ?_) rfl (by kernel_rfl) (by kernel_rfl) (by kernel_rfl) (fun _ _ _ h => h) (by rfl) ?_ HG2.out ?_
    rotate_left
    · (intro W hW; go_simp; with_reducible rfl)
    refine held_take 8 (v := ?_) rfl (by kernel_rfl) (by kernel_rfl) (by kernel_rfl) (fun _ _ _ h => h) (by rfl) ?_ HG2.out ?_
    rotate_left
    · (intro W hW; go_simp; with_reducible rfl)
    refine held_norm (a' := ?_) ?_ ?_
    rotate_left
    · (go_simp; with_reducible rfl)
    refine held_skip 9 rfl (by kernel_rfl) (by kernel_rfl) (by kernel_rfl) (fun _ _ _ h => h) (by rfl) HG2.out ?_
    refine held_norm (a' := ?_) ?_ ?_
    rotate_left
    · (go_simp; with_reducible rfl)
    refine held_skip 10 rfl (by kernel_rfl) (by kernel_rfl) (by kernel_rfl) (fun _ _ _ h => h) (by rfl) HG2.out ?_
    refine held_norm (a' := ?_) ?_ ?_
    rotate_left
    · (go_simp; with_reducible rfl)
    refine held_skip 11 rfl (by kernel_rfl) (by kernel_rfl) (by kernel_rfl) (fun _ _ _ h => h) (by rfl) HG2.out ?_
    refine held_norm (a' := ?_) ?_ ?_
    rotate_left
    · (go_simp; with_reducible rfl)
    refine held_skip 12 rfl (by kernel_rfl) (by kernel_rfl) (by kernel_rfl) (fun _ _ _ h => h) (by rfl) HG2.out ?_
    refine held_norm (a' := ?_) ?_ ?_
    rotate_left
    · (go_simp; with_reducible rfl)
    refine held_skip 13 rfl (by kernel_rfl) (by kernel_rfl) (by kernel_rfl) (fun _ _ _ h => h) (by rfl) HG2.out ?_
    refine held_norm (a' := ?_) ?_ ?_
    rotate_left
    · (go_simp; with_reducible rfl)
    refine held_skip 14 rfl (by kernel_rfl) (by kernel_rfl) (by kernel_rfl) (fun _ _ _ h => h) (by rfl) HG2.out ?_
    refine held_norm (a' := ?_) ?_ ?_
    rotate_left
    · (go_simp; with_reducible rfl)
    refine held_skip 15 rfl (by kernel_rfl) (by kernel_rfl) (by kernel_rfl) (fun _ _ _ h => h) (by rfl) HG2.out ?_
    refine held_norm (a' := ?_) ?_ ?_
    rotate_left
    · (go_simp; with_reducible rfl)
    refine held_take 16 (v := ?_) rfl (by kernel_rfl) (by kernel_rfl) (by kernel_rfl) (fun _ _ _ h => h) (by rfl) ?_ HG2.out ?_
    rotate_left
    · (intro W hW; go_simp; with_reducible rfl)
    refine held_take 17 (v := ?_) rfl (by kernel_rfl) (by kernel_rfl) (by kernel_rfl) (fun _ _ _ h => h) (by rfl) ?_ HG2.out ?_
    rotate_left
    · (intro W hW; go_simp; with_reducible rfl)
    refine held_norm (a' := ?_) ?_ ?_
    rotate_left
    · (go_simp; with_reducible rfl)
    refine held_done (by kernel_rfl) ?_
    go_wp2
    go_ret
    exact ⟨rfl, HGu.out.trans HG2.out⟩
  · cases th
    · skip
      refine wp_region_S (fun W => Grew u0 W) (by kernel_rfl) ?_
      refine held_take 0 (v := ?_) rfl (by kernel_rfl) (by kernel_rfl) (by kernel_rfl) (fun _ _ _ h => h) (by rfl) ?_ (Grew.refl u0).drew ?_
      rotate_left
      · (intro W hW; go_simp; with_reducible rfl)
      refine held_norm (a' := ?_) ?_ ?_
      rotate_left
      · (go_simp; with_reducible rfl)
      refine held_call 1 (by kernel_rfl) rfl (by rfl) (fun K hK => ?_)
      go_simp
      go_wp2_with (go_at_call 59; (with_reducible refine (HW.out _ (Grew.refl u0).drew).grows.mono ?_); rintro e w2 ⟨rfl, hg2⟩; have HG2 := Lib.hid (show Grew u0 w2 from ((Grew.refl u0).drew).trans hg2); clear hg2)
      refine hK.out _ _ HG2.out ?_
      clear hK K
      refine held_take 2 (v := ?_) rfl (by kernel_rfl) (by kernel_rfl) (by kernel_rfl) (fun _ _ _ h => h) (by rfl) ?_ HG2.out ?_
      rotate_left
      · (intro W hW; go_simp; with_reducible rfl)
      refine held_norm (a' := ?_) ?_ ?_
      rotate_left
      · (go_simp; with_reducible rfl)
      refine held_take 3 (v := ?_) rfl (by kernel_rfl) (by kernel_rfl) (by kernel_rfl) (fun _ _ _ h => h) (by rfl) ?_ HG2.out ?_
      rotate_left
      · (intro W hW; go_simp; with_reducible rfl)
      refine held_norm (a' := ?_) ?_ ?_
      rotate_left
      · (go_simp; with_reducible rfl)
      refine held_take 4 (v := ?_) rfl (by kernel_rfl) (by kernel_rfl) (by kernel_rfl) (fun _ _ _ h => h) (by rfl) ?_ HG2.out ?_
      rotate_left
      · (intro W hW; obtain ⟨hbl, _, _, c2, _⟩ := HCs.out W hW; go_simp; with_reducible rfl)
      refine held_norm (a' := ?_) ?_ ?_
      rotate_left
      · (go_simp; with_reducible rfl)
      refine held_take 5 (v := ?_) rfl (by kernel_rfl) (by kernel_rfl) (by kernel_rfl) (fun _ _ _ h => h) (by rfl) ?_ HG2.out ?_
      rotate_left
      · (intro W hW; go_simp; with_reducible rfl)
      refine held_norm (a' := ?_) ?_ ?_
      rotate_left
      · (go_simp; with_reducible rfl)
      refine held_call 6 (by kernel_rfl) rfl (by rfl) (fun K hK => ?_)
      go_simp
      go_wp2_with (go_at_call 60; (with_reducible refine (HHv.out _ HG2.out).grows.mono ?_); rintro e w3 ⟨rfl, hg3⟩; have HG3 := Lib.hid (HG2.out.trans hg3); clear hg3)
      refine hK.out _ _ HG3.out ?_
      clear hK K
      refine held_take 7 (v := ?_) rfl (by kernel_rfl) (by kernel_rfl) (by kernel_rfl) (fun _ _ _ h => h) (by rfl) ?_ HG3.out ?_
      rotate_left
      · (intro W hW; go_simp; with_reducible rfl)
      refine held_take 8 (v := ?_) rfl (by kernel_rfl) (by kernel_rfl) (by kernel_rfl) (fun _ _ _ h => h) (by rfl) ?_ HG3.out ?_
      rotate_left
      · (intro W hW; go_simp; with_reducible rfl)
      refine held_norm (a' := ?_) ?_ ?_
      rotate_left
      · (go_simp; with_reducible rfl)
      refine held_skip 9 rfl (by kernel_rfl) (by kernel_rfl) (by kernel_rfl) (fun _ _ _ h => h) (by rfl) HG3.out ?_
      refine held_norm (a' := ?_) ?_ ?_
      rotate_left
      · (go_simp; with_reducible rfl)
      refine held_skip 10 rfl (by kernel_rfl) (by kernel_rfl) (by kernel_rfl) (fun _ _ _ h => h) (by rfl) HG3.out ?_
      refine held_norm (a' := ?_) ?_ ?_
      rotate_left
      · (go_simp; with_reducible rfl)
      refine held_skip 11 rfl (by kernel_rfl) (by kernel_rfl) (by kernel_rfl) (fun _ _ _ h => h) (by rfl) HG3.out ?_
      refine held_norm (a' := ?_) ?_ ?_
      rotate_left
      · (go_simp; with_reducible rfl)
      refine held_skip 12 rfl (by kernel_rfl) (by kernel_rfl) (by kernel_rfl) (fun _ _ _ h => h) (by rfl) HG3.out ?_
      refine held_norm (a' := ?_) ?_ ?_
      rotate_left
      · (go_simp; with_reducible rfl)
      refine held_skip 13 rfl (by kernel_rfl) (by kernel_rfl) (by kernel_rfl) (fun _ _ _ h => h) (by rfl) HG3.out ?_
      refine held_norm (a' := ?_) ?_ ?_
      rotate_left
      · (go_simp; with_reducible rfl)
      refine held_skip 14 rfl (by kernel_rfl) (by kernel_rfl) (by kernel_rfl) (fun _ _ _ h => h) (by rfl) HG3.out ?_
      refine held_norm (a' := ?_) ?_ ?_
      rotate_left
      · (go_simp; with_reducible rfl)
      refine held_skip 15 rfl (by kernel_rfl) (by kernel_rfl) (by kernel_rfl) (fun _ _ _ h => h) (by rfl) HG3.out ?_
      refine held_norm (a' := ?_) ?_ ?_
      rotate_left
      · (go_simp; with_reducible rfl)
      refine held_take 16 (v := ?_) rfl (by kernel_rfl) (by kernel_rfl) (by kernel_rfl) (fun _ _ _ h => h) (by rfl) ?_ HG3.out ?_
      rotate_left
      · (intro W hW; go_simp; with_reducible rfl)
      refine held_take 17 (v := ?_) rfl (by kernel_rfl) (by kernel_rfl) (by kernel_rfl) (fun _ _ _ h => h) (by rfl) ?_ HG3.out ?_
      rotate_left
      · (intro W hW; go_simp; with_reducible rfl)
      refine held_norm (a' := ?_) ?_ ?_
      rotate_left
      · (go_simp; with_reducible rfl)
      refine held_done (by kernel_rfl) ?_
      go_wp2
      go_ret
      exact ⟨rfl, HGu.out.trans HG3.out⟩
    · skip
      refine wp_region_S (fun W => Grew u0 W) (by kernel_rfl) ?_
      refine held_take 0 (v := ?_) rfl (by kernel_rfl) (by kernel_rfl) (by kernel_rfl) (fun _ _ _ h => h) (by rfl) ?_ (Grew.refl u0).drew ?_
      rotate_left
      · (intro W hW; go_simp; with_reducible rfl)
      refine held_norm (a' := ?_) ?_ ?_
      rotate_left
      · (go_simp; with_reducible rfl)
      refine held_call 1 (by kernel_rfl) rfl (by rfl) (fun K hK => ?_)
      go_simp
      go_wp2_with (go_at_call 59; (with_reducible refine (HW.out _ (Grew.refl u0).drew).grows.mono ?_); rintro e w2 ⟨rfl, hg2⟩; have HG2 := Lib.hid (show Grew u0 w2 from ((Grew.refl u0).drew).trans hg2); clear hg2)
      refine hK.out _ _ HG2.out ?_
      clear hK K
      refine held_take 2 (v := ?_) rfl (by kernel_rfl) (by kernel_rfl) (by kernel_rfl) (fun _ _ _ h => h) (by rfl) ?_ HG2.out ?_
      rotate_left
      · (intro W hW; go_simp; with_reducible rfl)
      refine held_norm (a' := ?_) ?_ ?_
      rotate_left
      · (go_simp; with_reducible rfl)
      refine held_take 3 (v := ?_) rfl (by kernel_rfl) (by kernel_rfl) (by kernel_rfl) (fun _ _ _ h => h) (by rfl) ?_ HG2.out ?_
      rotate_left
      · (intro W hW; go_simp; with_reducible rfl)
      refine held_norm (a' := ?_) ?_ ?_
      rotate_left
      · (go_simp; with_reducible rfl)
      refine held_take 4 (v := ?_) rfl (by kernel_rfl) (by kernel_rfl) (by kernel_rfl) (fun _ _ _ h => h) (by rfl) ?_ HG2.out ?_
      rotate_left
      · (intro W hW; obtain ⟨hbl, _, _, c2, _⟩ := HCs.out W hW; go_simp; with_reducible rfl)
      refine held_norm (a' := ?_) ?_ ?_
      rotate_left
      · (go_simp; with_reducible rfl)
      refine held_take 5 (v := ?_) rfl (by kernel_rfl) (by kernel_rfl) (by kernel_rfl) (fun _ _ _ h => h) (by rfl) ?_ HG2.out ?_
      rotate_left
      · (intro W hW; go_simp; with_reducible rfl)
      refine held_norm (a' := ?_) ?_ ?_
      rotate_left
      · (go_simp; with_reducible rfl)
      refine held_call 6 (by kernel_rfl) rfl (by rfl) (fun K hK => ?_)
      go_simp
      go_wp2_with (go_at_call 60; (with_reducible refine (HHv.out _ HG2.out).grows.mono ?_); rintro e w3 ⟨rfl, hg3⟩; have HG3 := Lib.hid (HG2.out.trans hg3); clear hg3)
      refine hK.out _ _ HG3.out ?_
      clear hK K
      refine held_take 7 (v := ?_) rfl (by kernel_rfl) (by kernel_rfl) (by kernel_rfl) (fun _ _ _ h => h) (by rfl) ?_ HG3.out ?_
      rotate_left
      · (intro W hW; go_simp; with_reducible rfl)
      refine held_take 8 (v := ?_) rfl (by kernel_rfl) (by kernel_rfl) (by kernel_rfl) (fun _ _ _ h => h) (by rfl) ?_ HG3.out ?_
      rotate_left
      · (intro W hW; go_simp; with_reducible rfl)
      refine held_norm (a' := ?_) ?_ ?_
      rotate_left
      · (go_simp; with_reducible rfl)
      refine held_take 9 (v := ?_) rfl (by kernel_rfl) (by kernel_rfl) (by kernel_rfl) (fun _ _ _ h => h) (by rfl) ?_ HG3.out ?_
      rotate_left
      · (intro W hW; go_simp; with_reducible rfl)
      refine held_norm (a' := ?_) ?_ ?_
      rotate_left
      · (go_simp; with_reducible rfl)
      refine held_take 10 (v := ?_) rfl (by kernel_rfl) (by kernel_rfl) (by kernel_rfl) (fun _ _ _ h => h) (by rfl) ?_ HG3.out ?_
      rotate_left
      · (intro W hW; obtain ⟨hbl, c0, c1, _, _⟩ := HCs.out W hW; go_simp; with_reducible rfl)
      refine held_norm (a' := ?_) ?_ ?_
      rotate_left
      · (go_simp; with_reducible rfl)
      refine held_take 11 (v := ?_) rfl (by kernel_rfl) (by kernel_rfl) (by kernel_rfl) (fun _ _ _ h => h) (by rfl) ?_ HG3.out ?_
      rotate_left
      · (intro W hW; go_simp; with_reducible rfl)
      refine held_norm (a' := ?_) ?_ ?_
      rotate_left
      · (go_simp; with_reducible rfl)
      refine held_take 12 (v := ?_) rfl (by kernel_rfl) (by kernel_rfl) (by kernel_rfl) (fun _ _ _ h => h) (by rfl) ?_ HG3.out ?_
      rotate_left
      · (intro W hW; obtain ⟨hbl, _, _, _, c3⟩ := HCs.out W hW; go_simp; with_reducible rfl)
      refine held_norm (a' := ?_) ?_ ?_
      rotate_left
      · (go_simp; with_reducible rfl)
      refine held_take 13 (v := ?_) rfl (by kernel_rfl) (by kernel_rfl) (by kernel_rfl) (fun _ _ _ h => h) (by rfl) ?_ HG3.out ?_
      rotate_left
      · (intro W hW; go_simp; with_reducible rfl)
      refine held_norm (a' := ?_) ?_ ?_
      rotate_left
      · (go_simp; with_reducible rfl)
      refine held_call 14 (by kernel_rfl) rfl (by rfl) (fun K hK => ?_)
      go_simp
      go_wp2_with (go_at_call 62; (with_reducible refine (HR.out _ HG3.out).grows.mono ?_); rintro e w4 ⟨rfl, hg4⟩; have HG4 := Lib.hid (HG3.out.trans hg4); clear hg4)
      refine hK.out _ _ HG4.out ?_
      clear hK K
      refine held_call 15 (by kernel_rfl) rfl (by rfl) (fun K hK => ?_)
      go_simp
      go_wp2_with (go_at_call 61; (with_reducible refine (HH.out _ HG4.out).grows.mono ?_); rintro e w5 ⟨rfl, hg5⟩; have HG5 := Lib.hid (HG4.out.trans hg5); clear hg5)
      refine hK.out _ _ HG5.out ?_
      clear hK K
      refine held_take 16 (v := ?_) rfl (by kernel_rfl) (by kernel_rfl) (by kernel_rfl) (fun _ _ _ h => h) (by rfl) ?_ HG5.out ?_
      rotate_left
      · (intro W hW; go_simp; with_reducible rfl)
      refine held_take 17 (v := ?_) rfl (by kernel_rfl) (by kernel_rfl) (by kernel_rfl) (fun _ _ _ h => h) (by rfl) ?_ HG5.out ?_
      rotate_left
      · (intro W hW; go_simp; with_reducible rfl)
      refine held_norm (a' := ?_) ?_ ?_
      rotate_left
      · (go_simp; with_reducible rfl)
      refine held_done (by kernel_rfl) ?_
      go_wp2
      go_ret
      exact ⟨rfl, HGu.out.trans HG5.out⟩
theorem passes_zero (key : List Vl) (A : Option Addr) (kA : Nat) (hl : key.length ≤ 1000) (hz : ∀ v ∈ key, v.s.size ≤ 3000) (hk : (keyRowL key).length ≤ 1000000) (w : World) (ra : VlsR (PRow w) A key) (htab : Lib.TabIs Tryd.prog w "internal/strconv.uint64pow10" .u64 Lib.pow10Tab) :
    Gives Tryd.prog 32 #[.agg #[.slice none 0 0, .int .i64 0, .slice none 0 0, .int .i64 0, .int .i64 0], .slice A key.length kA] w (.bool false) := by
  have h := passes_gen none 0 0 0 0 0 [] key none A 0 kA false hl hz hk w (Or.inl rfl) ra htab (fun W _ => bhas_zero _ W)
  rwa [Bool.and_false, Bool.and_false] at h
end Go.Proofs.YtklhledcnijchaaDoor

/- Layer 20: the page's example. Condition: the library's table of powers. -/
namespace Go.Proofs.YtklhledcnijchaaDoor
open Go.RowKit
attribute [local go_sem] more_cell more_frozen more_more more_setCell more_of_drew more_of_drewN lt_more le_more past_cell past_cell2 past_frozen past_frozen2 past_setCell past_setCell2 mid_cell mid_frozen mid_setCell
attribute [local go_sem ↓] Go.wp_at_zero Go.wp_at_succ

theorem passes_any (f : Sf) (g c : Nat) (A0 : Option Addr) (cA : Nat) (key : List Vl) (A : Option Addr) (kA : Nat) (h0 : 0 < f.ws.length) (hwl : f.ws.length ≤ 1000000) (hk5 : f.k ≤ 5) (hwo : wordsOk f.ws) (hl : key.length ≤ 1000) (hz : ∀ v ∈ key, v.s.size ≤ 3000) (hk : (keyRowL key).length ≤ 1000000) (w : World) (hw : URow w (some ⟨g, 0, none⟩) f.ws) (hs : Row w A0 (flatS f.ss)) (ra : VlsR (PRow w) A key) (htab : Lib.TabIs Tryd.prog w "internal/strconv.uint64pow10" .u64 Lib.pow10Tab) :
    Gives Tryd.prog 32 #[.agg #[.slice (some ⟨g, 0, none⟩) f.ws.length c, .int .i64 f.k, .slice A0 f.ss.length cA, .int .i64 f.seed, .int .i64 f.cnt], .slice A key.length kA] w (.bool (wholeV key && (haveS f.ss key && hasN f.ws f.k (hashN f.seed key)))) :=
  passes_gen (some ⟨g, 0, none⟩) f.ws.length c f.k f.seed f.cnt f.ss key A0 A cA kA _ hl hz hk w hs ra htab fun W hW => bhas_to f.ws f.k _ f.ws.length g c rfl (hashN_is f.seed key).2 hk5 h0 hwl hwo _ rfl W (hw.grew hW)
def oneR : List Vl := [⟨1, 1, ⟨#[]⟩⟩]
def exF : Sf := addF (newF 4 1 2) [oneR]
theorem one_key : (keyRowL oneR).length ≤ 1000000 := by
  have h := keyRowL_tight oneR (by intro v hv; simp only [oneR, List.mem_cons, List.not_mem_nil, or_false] at hv; subst hv; decide)
  have e : szR oneR = 1 := rfl
  have e2 : oneR.length = 1 := rfl
  rw [e, e2] at h
  omega
theorem nul_key : (keyRowL [nulV]).length ≤ 1000000 := by
  have h := keyRowL_tight [nulV] (by intro v hv; simp only [List.mem_cons, List.not_mem_nil, or_false] at hv; subst hv; decide)
  have e : szR [nulV] = 1 := rfl
  have e2 : ([nulV] : List Vl).length = 1 := rfl
  rw [e, e2] at h
  omega
theorem rws_lone {w : World} {B A : Option Addr} {l : List Vl} {k : Nat} (h : Row w B [.slice A l.length k]) (hk : l.length ≤ k) (h2 : VlsR (PRow w) A l) : RwsR (PRow w) B [l] :=
  ⟨[[.slice A l.length k]], ⟨rfl, fun i x cs hi hd => by
    rcases i with _ | i
    · simp only [List.getElem?_cons_zero, Option.some.injEq] at hi hd
      subst hi hd
      exact ⟨⟨A, k, rfl, hk, h2⟩, rfl⟩
    · simp at hi⟩, by simpa [PRow] using h⟩
theorem numsK_one (seed : Int) (r : List Vl) (h : wholeV r = true) : numsK seed [r] = [hashN seed r] := by
  unfold numsK
  rw [List.filter_cons_of_pos h]
  rfl
attribute [local irreducible] hashN
theorem ex_new : (newF 4 1 2).ws = [0] := rfl
theorem ex_ws : exF.ws = addW (List.replicate 1 0) 2 [hashN 4 oneR] := by
  show addW (List.replicate 1 0) 2 (numsK 4 [oneR]) = _
  rw [numsK_one 4 oneR rfl]
theorem ex_ss : exF.ss = [addS zeroS [toV ⟨1, 1, ⟨#[]⟩⟩]] := rfl
theorem ex_cnt : exF.cnt = 1 := rfl
theorem ex_len : exF.ws.length = 1 := by rw [ex_ws, addW_len]; rfl
theorem ex_passes : (wholeV oneR && (haveS exF.ss oneR && hasN exF.ws exF.k (hashN exF.seed oneR))) = true := by
  have e1 : wholeV oneR = true := rfl
  have e2 : haveS exF.ss oneR = true := by
    rw [ex_ss]
    show (hasS (addS zeroS [toV ⟨1, 1, ⟨#[]⟩⟩]) (toV ⟨1, 1, ⟨#[]⟩⟩) && true) = true
    rw [hasS_mem _ _ (List.mem_singleton.2 rfl)]
    rfl
  have e3 : hasN exF.ws exF.k (hashN exF.seed oneR) = true := by
    rw [show exF.k = 2 from rfl, show exF.seed = 4 from rfl, ex_ws]
    exact has_added 1 2 (by decide) [hashN 4 oneR] (hashN 4 oneR) (List.mem_singleton.2 rfl)
  rw [e1, e2, e3]
  rfl
set_option maxHeartbeats 4000000 in
set_option maxRecDepth 100000 in
theorem live20_any (w : World) (htab : Lib.TabIs Tryd.prog w "internal/strconv.uint64pow10" .u64 Lib.pow10Tab) : Gives Tryd.prog 30 #[] w (.bool true) := by
  have hone : ∀ {W : World} {b : Nat}, Row W (some ⟨b, 0, none⟩) [.int .i64 1, .int .i64 1, .string ⟨#[]⟩] → VlsR (PRow W) (some ⟨b, 0, none⟩) oneR := fun h => vlsR_flat (by simpa [flatV, oneR, vcL] using h)
  have hnul : ∀ {W : World} {b : Nat}, Row W (some ⟨b, 0, none⟩) [.int .i64 0, .int .i64 0, .string ⟨#[]⟩] → VlsR (PRow W) (some ⟨b, 0, none⟩) [nulV] := fun h => vlsR_flat (by simpa [flatV, nulV, vcL] using h)
  obtain ⟨w1, hw1⟩ : ∃ w1, w.alloc (.cells #[.int .i64 1, .int .i64 1, .string ⟨#[]⟩] 31) = w1 := ⟨_, rfl⟩
  have HG1 : Hid (Grew w w1) := Lib.hid (by rw [← hw1]; exact (Grew.refl w).alloc _)
  have HR1 : Hid (Row w1 (some ⟨w.heap.size, 0, none⟩) [.int .i64 1, .int .i64 1, .string ⟨#[]⟩]) := Lib.hid (by rw [← hw1]; exact row_new w _ _ _ rfl)
  have Hw1 := Lib.hid hw1
  have HTab := Lib.hid htab
  have HNew := Lib.hid (snew_any 4 1 2 w1)
  clear hw1 htab
  unfold Gives
  go_enter Tryd.func30, Tryd.ntmps30
  go_wp2_with fail
  rw [Hw1.out]
  clear Hw1
  refine HNew.out.mono ?_
  rintro e w2 ⟨g, c, A0, cA, rfl, hg2, hu2, hs2⟩
  have HG2 := Lib.hid (HG1.out.trans hg2)
  have HU2 := Lib.hid hu2
  have HS2 := Lib.hid hs2
  have HR2 := Lib.hid (HR1.out.grew hg2)
  clear hg2 hu2 hs2 HG1 HR1 HNew
  obtain ⟨gW, hgW⟩ : ∃ gW, w.heap.size = gW := ⟨_, rfl⟩
  rw [hgW] at HR2 ⊢
  clear hgW
  have e0 : sfC (newF 4 1 2) g c A0 cA = [.slice (some ⟨g, 0, none⟩) 1 c, .int .i64 2, .slice A0 0 cA, .int .i64 4, .int .i64 0] := rfl
  rw [e0]
  have hadd : ∀ {W : World} {B : Option Addr} {cB : Nat}, Grew w2 W → RwsR (PRow W) B [oneR] → Calls Tryd.prog 33 #[.agg #[.slice (some ⟨g, 0, none⟩) 1 c, .int .i64 2, .slice A0 0 cA, .int .i64 4, .int .i64 0], .slice B 1 cB] W (SfF W exF) := fun {W B cB} hW h => sadd_any (newF 4 1 2) [oneR] g c A0 B cA cB 0 (by decide) (by decide) (by decide) (by decide) (by intro x hx; rw [ex_new] at hx; simp only [List.mem_cons, List.not_mem_nil, or_false] at hx; subst hx; decide) (by decide) (by intro s hs; cases hs) (by decide) (by decide) (by decide) ⟨by decide, by intro r hr; simp only [List.mem_cons, List.not_mem_nil, or_false] at hr; subst hr; exact ⟨by decide, by intro v hv; simp only [oneR, List.mem_cons, List.not_mem_nil, or_false] at hv; subst hv; decide, one_key⟩⟩ W (HU2.out.grew hW) (HS2.out.grew hW) h (tab_grew HTab.out (HG2.out.trans hW))
  obtain ⟨w3, hw3⟩ : ∃ w3, w2.alloc (.cells #[.slice (some ⟨gW, 0, none⟩) 1 1] 22) = w3 := ⟨_, rfl⟩
  have hg23 : Grew w2 w3 := by rw [← hw3]; exact (Grew.refl _).alloc _
  have HAd := Lib.hid (hadd (B := some ⟨w2.heap.size, 0, none⟩) (cB := 1) hg23 (rws_lone (k := 1) (by rw [← hw3]; exact row_new w2 _ _ _ rfl) (by decide) (hone (HR2.out.grew hg23))))
  have HG3 := Lib.hid (HG2.out.trans hg23)
  have HR3 := Lib.hid (HR2.out.grew hg23)
  have Hw3 := Lib.hid hw3
  clear hadd hg23 hw3 HU2 HS2 HG2 HR2 e0
  go_wp2_with fail
  rw [Hw3.out]
  clear Hw3
  refine HAd.out.mono ?_
  rintro e w4 ⟨g', c', A', cA', rfl, hg4, hu4, hs4⟩
  have e0 : sfC exF g' c' A' cA' = [.slice (some ⟨g', 0, none⟩) 1 c', .int .i64 2, .slice A' 1 cA', .int .i64 4, .int .i64 1] := by
    unfold sfC
    rw [ex_len]
    rfl
  rw [e0]
  have HG4 := Lib.hid (HG3.out.trans hg4)
  have HU4 := Lib.hid hu4
  have HS4 := Lib.hid hs4
  have HR4 := Lib.hid (HR3.out.grew hg4)
  clear hg4 hu4 hs4 e0 HG3 HR3 HAd
  obtain ⟨w5, hw5⟩ : ∃ w5, w4.alloc (.cells #[.slice (some ⟨g', 0, none⟩) 1 c', .int .i64 2, .slice A' 1 cA', .int .i64 4, .int .i64 1] 49) = w5 := ⟨_, rfl⟩
  have hg45 : Grew w4 w5 := by rw [← hw5]; exact (Grew.refl _).alloc _
  have HB5 : Hid (Blok w5 w4.heap.size 49 #[.slice (some ⟨g', 0, none⟩) 1 c', .int .i64 2, .slice A' 1 cA', .int .i64 4, .int .i64 1]) := Lib.hid (by rw [← hw5]; exact Blok.new _ _ _ _ rfl)
  have HP : Hid (∀ (W : World) (l : List Vl) (B : Option Addr) (cB : Nat) (n : Nat) (t : Bool), Grew w4 W → l.length = n → n ≤ 1000 → (∀ v ∈ l, v.s.size ≤ 3000) → (keyRowL l).length ≤ 1000000 → VlsR (PRow W) B l → (wholeV l && (haveS exF.ss l && hasN exF.ws exF.k (hashN exF.seed l))) = t → Gives Tryd.prog 32 #[.agg #[.slice (some ⟨g', 0, none⟩) 1 c', .int .i64 2, .slice A' 1 cA', .int .i64 4, .int .i64 1], .slice B n cB] W (.bool t)) := Lib.hid fun W l B cB n t hW hn hl hz hk hv ht => by
    subst hn
    have h := passes_any exF g' c' A' cA' l B cB (by rw [ex_len]; decide) (by rw [ex_len]; decide) (by decide) (by rw [ex_ws]; exact addW_ok 2 _ (ok_rep 1)) hl hz hk W (HU4.out.grew hW) (HS4.out.grew hW) hv (tab_grew HTab.out (HG4.out.trans hW))
    rw [ht, ex_len] at h
    exact h
  have HP1 := Lib.hid (HP.out w5 oneR (some ⟨gW, 0, none⟩) 1 1 true hg45 rfl (by decide) (by intro v hv; simp only [oneR, List.mem_cons, List.not_mem_nil, or_false] at hv; subst hv; decide) one_key (hone (HR4.out.grew hg45)) ex_passes)
  have HG5 := Lib.hid (HG4.out.trans hg45)
  have HG45 := Lib.hid hg45
  have Hw5 := Lib.hid hw5
  clear hg45 hw5 HU4 HS4 HG4 HR4
  go_wp2_with fail
  rw [Hw5.out]
  clear Hw5
  (with_reducible refine HP1.out.grows.mono ?_)
  rintro e w6 ⟨rfl, hg6⟩
  obtain ⟨w7, hw7⟩ : ∃ w7, w6.alloc (.cells #[.int .i64 0, .int .i64 0, .string ⟨#[]⟩] 31) = w7 := ⟨_, rfl⟩
  have hg67 : Grew w6 w7 := by rw [← hw7]; exact (Grew.refl _).alloc _
  have HR7 : Hid (Row w7 (some ⟨w6.heap.size, 0, none⟩) [.int .i64 0, .int .i64 0, .string ⟨#[]⟩]) := Lib.hid (by rw [← hw7]; exact row_new w6 _ _ _ rfl)
  have HP2 := Lib.hid (HP.out w7 [nulV] (some ⟨w6.heap.size, 0, none⟩) 1 1 false (HG45.out.trans (hg6.trans hg67)) rfl (by decide) (by intro v hv; simp only [List.mem_cons, List.not_mem_nil, or_false] at hv; subst hv; decide) nul_key (hnul HR7.out) rfl)
  have hb6 := HB5.out.grew hg6
  have c0 := hb6.cell 0
  have c1 := hb6.cell 1
  have c2 := hb6.cell 2
  have c3 := hb6.cell 3
  have c4 := hb6.cell 4
  simp at c0 c1 c2 c3 c4
  have hbl := hb6.lt
  have HB6 := Lib.hid hb6
  have HG6 := Lib.hid (HG5.out.trans hg6)
  have HG7 := Lib.hid (HG5.out.trans (hg6.trans hg67))
  have HG67 := Lib.hid hg67
  have Hw7 := Lib.hid hw7
  clear hb6 hg6 hg67 hw7 HP HP1 HB5 HG5 HG45 HR7
  go_wp2_with fail
  rw [Hw7.out]
  (with_reducible refine HP2.out.grows.mono ?_)
  rintro e w8 ⟨rfl, hg8⟩
  have hb8 := HB6.out.grew (HG67.out.trans hg8)
  have d0 := hb8.cell 0
  have d1 := hb8.cell 1
  have d2 := hb8.cell 2
  have d3 := hb8.cell 3
  have d4 := hb8.cell 4
  simp at d0 d1 d2 d3 d4
  have hbl8 := hb8.lt
  have HG8 := Lib.hid (HG7.out.trans hg8)
  have HCn := Lib.hid (scount_any (some ⟨g', 0, none⟩) A' 1 c' 1 cA' 2 4 1 w8)
  clear hb8 hg8 HP2 HB6 HG7 HG67 HG6 Hw7 c0 c1 c2 c3 c4 hbl
  go_wp2_with fail
  (with_reducible refine HCn.out.grows.mono ?_)
  rintro e w9 ⟨rfl, hg9⟩
  have HG9 := Lib.hid (HG8.out.trans hg9)
  clear hg9 HCn
  go_wp2
  go_ret
  exact ⟨rfl, HG9.out⟩
end Go.Proofs.YtklhledcnijchaaDoor

/- Layer 20: the law of the zero filter. Condition: rows that lie in memory that is there; the library's table of powers. -/
namespace Go.Proofs.YtklhledcnijchaaDoor
open Go.RowKit
attribute [local go_sem] more_cell more_frozen more_more more_setCell more_of_drew more_of_drewN lt_more le_more past_cell past_cell2 past_frozen past_frozen2 past_setCell past_setCell2 mid_cell mid_frozen mid_setCell
attribute [local go_sem ↓] Go.wp_at_zero Go.wp_at_succ

set_option maxHeartbeats 2000000 in
set_option maxRecDepth 100000 in
theorem sadd_zero (B : Option Addr) (n c : Nat) (w : World) : Gives Tryd.prog 33 #[.agg #[.slice none 0 0, .int .i64 0, .slice none 0 0, .int .i64 0, .int .i64 0], .slice B n c] w (.agg #[.slice none 0 0, .int .i64 0, .slice none 0 0, .int .i64 0, .int .i64 0]) := by
  obtain ⟨u0, hu0⟩ : ∃ u0, (w.alloc (.cells #[.slice none 0 0, .int .i64 0, .slice none 0 0, .int .i64 0, .int .i64 0] 49)).alloc (.cells #[.slice none 0 0, .int .i64 0, .slice none 0 0, .int .i64 0, .int .i64 0] 49) = u0 := ⟨_, rfl⟩
  have HB0 : Hid (Blok u0 w.heap.size 49 #[.slice none 0 0, .int .i64 0, .slice none 0 0, .int .i64 0, .int .i64 0]) := Lib.hid (by rw [← hu0]; exact (Blok.new _ _ _ _ rfl).alloc _)
  have HZ0 : Hid (Blok u0 (w.heap.size + 1) 49 #[.slice none 0 0, .int .i64 0, .slice none 0 0, .int .i64 0, .int .i64 0]) := Lib.hid (by rw [← hu0]; exact Blok.new _ _ _ _ (by rw [World.size_alloc]))
  have HGu : Hid (Grew w u0) := Lib.hid (by rw [← hu0]; exact ((Grew.refl w).alloc _).alloc _)
  have Hu0 := Lib.hid hu0
  clear hu0
  unfold Gives
  go_enter Tryd.func33, Tryd.ntmps33
  go_wp2_with fail
  rw [Hu0.out]
  clear Hu0
  obtain ⟨gB, hgB⟩ : ∃ gB, w.heap.size = gB := ⟨_, rfl⟩
  rw [hgB] at HB0 HZ0 ⊢
  have HgB : Hid (w.heap.size ≤ gB + 1) := Lib.hid (by omega)
  clear hgB
  refine (bits_val _ none 0 0 rfl (0 : Int) _).grows.mono ?_
  rintro e w1 ⟨rfl, hg1⟩
  have hb1 := HB0.out.grew hg1
  have hz1 := HZ0.out.grew hg1
  have n0 := hb1.cell 0
  have n1 := hb1.cell 1
  have n2 := hb1.cell 2
  have n3 := hb1.cell 3
  have n4 := hb1.cell 4
  have m0 := hz1.cell 0
  have m1 := hz1.cell 1
  have m2 := hz1.cell 2
  have m3 := hz1.cell 3
  have m4 := hz1.cell 4
  simp at m0 m1 m2 m3 m4 n0 n1 n2 n3 n4
  have x0 := hz1.thaw 0
  have x1 := hz1.thaw 1
  have x2 := hz1.thaw 2
  have x3 := hz1.thaw 3
  have x4 := hz1.thaw 4
  have hbl := hb1.lt
  have hzl := hz1.lt
  have HG1 := Lib.hid (HGu.out.trans hg1)
  have hB7 := Lib.hid (((((hz1.set 0 (.slice none 0 0)).set 1 (.int .i64 0)).set 2 (.slice none 0 0)).set 3 (.int .i64 0)).set 4 (.int .i64 0))
  have HG7 := Lib.hid (Grew.setCell (Grew.setCell (Grew.setCell (Grew.setCell (Grew.setCell HG1.out (a := ⟨gB + 1, 0, none⟩) HgB.out (.slice none 0 0)) (a := ⟨gB + 1, 1, none⟩) HgB.out (.int .i64 0)) (a := ⟨gB + 1, 2, none⟩) HgB.out (.slice none 0 0)) (a := ⟨gB + 1, 3, none⟩) HgB.out (.int .i64 0)) (a := ⟨gB + 1, 4, none⟩) HgB.out (.int .i64 0))
  clear hg1 hb1 hz1 HB0 HZ0 HGu HG1
  go_wp2
  have r0 := hB7.out.cell 0
  have r1 := hB7.out.cell 1
  have r2 := hB7.out.cell 2
  have r3 := hB7.out.cell 3
  have r4 := hB7.out.cell 4
  simp at r0 r1 r2 r3 r4
  exact bodyPost_ret (v := .agg #[.slice none 0 0, .int .i64 0, .slice none 0 0, .int .i64 0, .int .i64 0]) (by simp [results, Tryd.results33, go_sem, r0, r1, r2, r3, r4]) rfl ⟨rfl, HG7.out⟩
theorem szR_most {m : Nat} : ∀ {l : List Vl}, (∀ v ∈ l, v.s.size ≤ m) → szR l ≤ l.length * (1 + m)
  | [], _ => Nat.zero_le _
  | x :: l, h => by
    have ih := szR_most (l := l) (fun v hv => h v (List.mem_cons_of_mem _ hv))
    have hx := h x List.mem_cons_self
    have e2 : szR (x :: l) = (1 + x.s.size) + szR l := by simp [szR]
    have e3 : (x :: l).length * (1 + m) = l.length * (1 + m) + (1 + m) := by rw [List.length_cons, Nat.succ_mul]
    omega
theorem pickL_small {r : List Vl} {ps : List Int} {m : Nat} (h : ∀ v ∈ r, v.s.size ≤ m) : ∀ v ∈ pickL r ps, v.s.size ≤ m := by
  intro v hv
  obtain ⟨p, _, rfl⟩ := List.mem_map.1 hv
  by_cases hp : 0 ≤ p ∧ p < r.length
  · obtain ⟨q, rfl⟩ : ∃ q : Nat, p = q := ⟨p.toNat, by omega⟩
    rw [pickV_in (by omega)]
    exact h _ (List.getElem_mem _)
  · rw [pickV_out hp]
    exact Nat.zero_le _
set_option maxHeartbeats 8000000 in
set_option maxRecDepth 100000 in
theorem siftZeros_walk (r : List Vl) (ps : List Int) (A B : Option Addr) (k c : Nat) (w : World) (hr : RwOk r) (hk : r.length ≤ k) (ra : VlsR (PRow w) A r) (rb : Row w B (iV ps)) (htab : Lib.TabIs Tryd.prog w "internal/strconv.uint64pow10" .u64 Lib.pow10Tab) :
    Gives Tryd.prog 6 #[.slice A r.length k, .slice B ps.length c] w (.bool true) := by
  obtain ⟨w0, hw0⟩ : ∃ w0, w.alloc (.cells #[.slice A r.length k] 22) = w0 := ⟨_, rfl⟩
  have hg0 : Grew w w0 := by rw [← hw0]; exact (Grew.refl _).alloc _
  have HM : Hid (Calls Tryd.prog 8 #[.slice (some ⟨w.heap.size, 0, none⟩) 1 1] w0 (MuchR w0 (goodRws [r]))) := Lib.hid
    (much4_any [r] ⟨by simp, by intro x hx; simp only [List.mem_cons, List.not_mem_nil, or_false] at hx; rw [hx]; exact hr⟩ (some ⟨w.heap.size, 0, none⟩) 1 _ (rws_lone (k := k) (by rw [← hw0]; exact row_new w _ _ _ rfl) hk (ra.grew hg0)))
  have HLive : Hid (∀ W, Grew w W → Gives Tryd.prog 30 #[] W (.bool true)) := Lib.hid fun W hW => live20_any W (tab_grew htab hW)
  have RA := Lib.hid ra
  have RB := Lib.hid rb
  have HTab := Lib.hid htab
  have Hw0 := Lib.hid hw0
  have HG0 := Lib.hid hg0
  clear ra rb htab hr hk hw0 hg0
  unfold Gives
  go_enter Tryd.func6, Tryd.ntmps6
  go_wp2_with fail
  rw [Hw0.out]
  clear Hw0
  refine HM.out.mono ?_
  rintro e w1 ⟨t, rfl, hg1, h1⟩
  have HG1 := Lib.hid (show Grew w w1 from HG0.out.trans hg1)
  have HGood := Lib.hid h1
  clear hg1 h1 HM HG0
  cases t
  rotate_left
  · go_wp2_with (go_at_call 30; (with_reducible refine (HLive.out _ HG1.out).grows.mono ?_); rintro e w5 ⟨rfl, hg5⟩; have HG5 := Lib.hid (show Grew w w5 from HG1.out.trans hg5); clear hg5)
    go_ret
    exact ⟨rfl, HG5.out⟩
  by_cases hc : 50 < ps.length
  · have e0 : decide ((50 : Int) < (ps.length : Int)) = true := decide_eq_true (by omega)
    have hci : (50 : Int) < (ps.length : Int) := by omega
    go_wp2_with (go_at_call 30; (with_reducible refine (HLive.out _ HG1.out).grows.mono ?_); rintro e w5 ⟨rfl, hg5⟩; have HG5 := Lib.hid (show Grew w w5 from HG1.out.trans hg5); clear hg5)
    go_ret
    exact ⟨rfl, HG5.out⟩
  have e0 : decide ((50 : Int) < (ps.length : Int)) = false := decide_eq_false (by omega)
  have hci : ¬ (50 : Int) < (ps.length : Int) := by omega
  obtain ⟨_, g2, _⟩ := good_row (HGood.out rfl)
  clear HGood
  have p1 := pickL_small (ps := ps) g2
  have p2 : (keyRowL (pickL r ps)).length ≤ 1000000 := by
    have h1 := keyRowL_tight _ p1
    have h2 := szR_most p1
    rw [pickL_len] at h1 h2
    have h3 : ps.length * (1 + 3000) ≤ 50 * 3001 := Nat.mul_le_mul (by omega) (Nat.le_refl _)
    omega
  obtain ⟨u3, hu3⟩ : ∃ u3, w1.alloc (.cells #[.slice none 0 0, .int .i64 0, .slice none 0 0, .int .i64 0, .int .i64 0] 49) = u3 := ⟨_, rfl⟩
  have hg3 : Grew w1 u3 := by rw [← hu3]; exact (Grew.refl _).alloc _
  have hgw3 := HG1.out.trans hg3
  have HB3 : Hid (Blok u3 w1.heap.size 49 #[.slice none 0 0, .int .i64 0, .slice none 0 0, .int .i64 0, .int .i64 0]) := Lib.hid (by rw [← hu3]; exact Blok.new _ _ _ _ rfl)
  have HKey := Lib.hid (skey_any r ps (by omega) A B k c u3 (RA.out.grew hgw3) (RB.out.grew hgw3))
  have HRPk : Hid (∀ W, Grew w W → Calls Tryd.prog 21 #[.slice A r.length k, .slice B ps.length c] W (ValsF W (pickL r ps))) := Lib.hid fun W hW => rpick_any r ps (by omega) A B k c W (RA.out.grew hW) (RB.out.grew hW)
  have hkl := pickL_len r ps
  have hkm : ps.length ≤ 1000 := by omega
  have HG3 := Lib.hid hgw3
  have Hu3 := Lib.hid hu3
  clear hg3 hgw3 hu3 RA RB g2 HG1
  generalize pickL r ps = key at *
  obtain ⟨gT, hgT⟩ : ∃ gT, w1.heap.size = gT := ⟨_, rfl⟩
  rw [hgT] at HB3
  have HgT := Lib.hid hgT
  have HCs : Hid (∀ W, Grew u3 W → gT < W.heap.size ∧ W.cell? ⟨gT, 0, none⟩ = some (.slice none 0 0) ∧ W.cell? ⟨gT, 1, none⟩ = some (.int .i64 0) ∧ W.cell? ⟨gT, 2, none⟩ = some (.slice none 0 0) ∧ W.cell? ⟨gT, 3, none⟩ = some (.int .i64 0) ∧ W.cell? ⟨gT, 4, none⟩ = some (.int .i64 0)) := Lib.hid fun W hW => ⟨(HB3.out.grew hW).lt, (HB3.out.grew hW).cell 0, (HB3.out.grew hW).cell 1, (HB3.out.grew hW).cell 2, (HB3.out.grew hW).cell 3, (HB3.out.grew hW).cell 4⟩
  have HPe : Hid (∀ W, Grew w W → Gives Tryd.prog 32 #[.agg #[.slice none 0 0, .int .i64 0, .slice none 0 0, .int .i64 0, .int .i64 0], .slice none 0 0] W (.bool false)) := Lib.hid fun W hW => passes_zero [] none 0 (by decide) (by intro v hv; cases hv) (by show (keyRowL []).length ≤ 1000000; decide) W (vlsR_flat (Or.inl rfl)) (tab_grew HTab.out hW)
  have HPs : Hid (∀ W A' c', Grew w W → VlsR (PRow W) A' key → Gives Tryd.prog 32 #[.agg #[.slice none 0 0, .int .i64 0, .slice none 0 0, .int .i64 0, .int .i64 0], .slice A' key.length c'] W (.bool false)) := Lib.hid fun W A' c' hW hv => passes_zero key A' c' (by omega) p1 p2 W hv (tab_grew HTab.out hW)
  have HSm : Hid (∀ W A1 c1 A2 c2, VlsR (PRow W) A1 key → VlsR (PRow W) A2 key → Gives Tryd.prog 12 #[.slice A1 key.length c1, .slice A2 key.length c2] W (.bool true)) := Lib.hid fun W A1 c1 A2 c2 h1 h2 => rsameRow_any key key A1 A2 c1 c2 (by omega) true (by simp) W h1 h2
  have HCn : Hid (∀ W, Gives Tryd.prog 34 #[.agg #[.slice none 0 0, .int .i64 0, .slice none 0 0, .int .i64 0, .int .i64 0]] W (.int .i64 0)) := Lib.hid fun W => scount_any none none 0 0 0 0 0 0 0 W
  obtain ⟨kn, hkn⟩ : ∃ kn, key.length = kn := ⟨_, rfl⟩
  rw [hkn] at HPs HSm
  clear p1 p2 HB3 hgT hkm HTab
  go_wp2_with fail
  rw [Hu3.out, HgT.out]
  clear Hu3 HgT
  refine HKey.out.mono ?_
  rintro e w4 ⟨A4, c4, rfl, hg4, ho4⟩
  rw [hkn]
  have HG4 := Lib.hid (HG3.out.trans hg4)
  have HU4 := Lib.hid hg4
  have HV4 := Lib.hid (own_vals ho4)
  have hc4 := own_cap' ho4
  clear hg4 ho4 HKey HG3
  go_wp2_with fail
  refine (HRPk.out w4 HG4.out).mono ?_
  rintro e w5 ⟨A5, c5, rfl, hg5, ho5⟩
  rw [hkn] at hc4 ⊢
  have HG5 := Lib.hid (HG4.out.trans hg5)
  have HU5 := Lib.hid (HU4.out.trans hg5)
  have HV5 := Lib.hid (HV4.out.grew hg5)
  have HV5' := Lib.hid (own_vals ho5)
  clear hg5 ho5 HRPk HG4 HU4 HV4 hkl hkn
  go_wp2_with fail
  (with_reducible refine (HSm.out w5 A4 c4 A5 c5 HV5.out HV5'.out).grows.mono ?_)
  rintro e w6 ⟨rfl, hg6⟩
  have HG6 := Lib.hid (HG5.out.trans hg6)
  have HU6 := Lib.hid (HU5.out.trans hg6)
  have HV6 := Lib.hid (HV5.out.grew hg6)
  clear hg6 HG5 HU5 HV5 HV5' HSm
  obtain ⟨hbl, c60, c61, c62, c63, c64⟩ := HCs.out w6 HU6.out
  obtain ⟨w7, hw7⟩ : ∃ w7, w6.alloc (.cells #[.slice A4 kn c4] 22) = w7 := ⟨_, rfl⟩
  have hg7 : Grew w6 w7 := by rw [← hw7]; exact (Grew.refl _).alloc _
  have HG7 := Lib.hid (HG6.out.trans hg7)
  have HU7 := Lib.hid (HU6.out.trans hg7)
  have HV7 := Lib.hid (HV6.out.grew hg7)
  have Hw7 := Lib.hid hw7
  clear hg7 hw7 HG6 HU6 HV6
  go_wp2_with fail
  rw [Hw7.out]
  clear Hw7 hbl c60 c61 c62 c63 c64
  (with_reducible refine (sadd_zero _ _ _ w7).grows.mono ?_)
  rintro e w8 ⟨rfl, hg8⟩
  have HG8 := Lib.hid (HG7.out.trans hg8)
  have HU8 := Lib.hid (HU7.out.trans hg8)
  have HV8 := Lib.hid (HV7.out.grew hg8)
  clear hg8 HG7 HU7 HV7
  go_wp2_with fail
  (with_reducible refine (HPs.out w8 A4 c4 HG8.out HV8.out).grows.mono ?_)
  rintro e w9 ⟨rfl, hg9⟩
  have HG9 := Lib.hid (HG8.out.trans hg9)
  have HU9 := Lib.hid (HU8.out.trans hg9)
  clear hg9 HG8 HU8 HV8 HPs
  obtain ⟨hbl, c60, c61, c62, c63, c64⟩ := HCs.out w9 HU9.out
  go_wp2_with fail
  clear hbl c60 c61 c62 c63 c64
  (with_reducible refine (HPe.out w9 HG9.out).grows.mono ?_)
  rintro e w10 ⟨rfl, hg10⟩
  have HG10 := Lib.hid (HG9.out.trans hg10)
  have HU10 := Lib.hid (HU9.out.trans hg10)
  clear hg10 HG9 HU9 HPe
  obtain ⟨hbl, c60, c61, c62, c63, c64⟩ := HCs.out w10 HU10.out
  obtain ⟨w11, hw11⟩ : ∃ w11, w10.alloc (.cells #[.slice A4 kn c4] 22) = w11 := ⟨_, rfl⟩
  have HG11 : Hid (Grew w w11) := Lib.hid (by rw [← hw11]; exact HG10.out.alloc _)
  have Hw11 := Lib.hid hw11
  clear hw11 HG10 HU10 HCs
  go_wp2_with fail
  rw [Hw11.out]
  clear Hw11 hbl c60 c61 c62 c63 c64
  (with_reducible refine (sadd_zero _ _ _ w11).grows.mono ?_)
  rintro e w12 ⟨rfl, hg12⟩
  have HG12 := Lib.hid (HG11.out.trans hg12)
  clear hg12 HG11
  go_wp2_with fail
  (with_reducible refine (HCn.out w12).grows.mono ?_)
  rintro e w13 ⟨rfl, hg13⟩
  have HG13 := Lib.hid (HG12.out.trans hg13)
  clear hg13 HG12 HCn
  go_wp2_with fail
  (with_reducible refine (HLive.out w13 HG13.out).grows.mono ?_)
  rintro e w14 ⟨rfl, hg14⟩
  have HG14 := Lib.hid (HG13.out.trans hg14)
  clear hg14 HG13 HLive
  go_wp2
  go_ret
  exact ⟨rfl, HG14.out⟩
end Go.Proofs.YtklhledcnijchaaDoor

namespace Go.Proofs.YtklhledcnijchaaDoor.siftZeros
open Go.RowKit Go.ChangeShapes Go.WideShapes Go.ChangeAt Go.Joins

theorem reads : ∀ t ∈ Tryd.f6.params.toList, Tryd.prog.readableRec t = true ∧ t < Tryd.prog.types.size := by
  rw [Tryd.params6]
  intro t ht
  simp only [List.mem_cons, List.not_mem_nil, or_false] at ht
  rcases ht with rfl | rfl
  all_goals exact ⟨by kernel_rfl, of_decide_eq_true (by kernel_rfl)⟩

/-- The door's own heap meets the condition. -/
theorem door_met (os : Os) (args : Array Value) : laidMetH Tryd.prog Rows.siftZerosRow.laid ((World.doorLaid Tryd.prog 600 os).forCall (fun _ _ => 0) ⟨#[], args, []⟩).memory :=
  laidMetH_of_parts3 (fuel := 8) (laidMet_of_run' 8 (by kernel_rfl) (by kernel_rfl)) (by kernel_rfl) (by kernel_rfl)
/-- What the condition gives a walk: the table of powers. -/
theorem of_laid {W : World} (h : laidMetH Tryd.prog Rows.siftZerosRow.laid W) : Lib.TabIs Tryd.prog W "internal/strconv.uint64pow10" .u64 Lib.pow10Tab := by
  rw [MakeChecks.laidMetH_plain _ _ _ (by kernel_rfl)] at h
  have h2 : laidMet Tryd.prog (("internal/strconv.uint64pow10", Lib.tabData .u64 Lib.pow10Tab) :: []) W := laidMet.tail (laidMet.tail h)
  exact Lib.tabIs_of_head (g := 1) (t := 145) (e := 84) (n := 20) (by kernel_rfl) (by kernel_rfl) (by kernel_rfl) (by kernel_rfl) (by kernel_rfl) (by kernel_rfl) h2
set_option maxRecDepth 100000 in
theorem lifted (os : Os) (started : os.Started) (H : Type) (enc : TypeId × Value → H) :
    ReturnsInHanded {} Tryd.checked os 6 .any (fun w args => (Rows.siftZerosSpec.pre enc Tryd.prog Tryd.f6 [] false w args ∧ laidMetH Tryd.prog Rows.siftZerosRow.laid w) ∧ sizedMet enc Tryd.prog Tryd.f6 (OpenSpec.ofChange Rows.siftZerosSpec) false w args)
      (Rows.siftZerosSpec.post enc Tryd.prog Tryd.f6 false true false false) := by
  refine returnsInHanded_of_change_and (C := Tryd.checked) (X := fun w _ => laidMetH Tryd.prog Rows.siftZerosRow.laid w) (fun _ _ _ hh h => h.of_heap hh) own started (by kernel_rfl) Tryd.func6
    (ChangeSpec.witness_shaped (enc := enc) (C := Tryd.checked) (os := os) (X := fun w _ => laidMetH Tryd.prog Rows.siftZerosRow.laid w) false (World.doorLaid Tryd.prog 600 os) #[.slice none 0 0, .slice none 0 0] 8 rfl (World.shaped_of_RefB (by kernel_rfl) (by kernel_rfl)) (by kernel_rfl) (by kernel_rfl) (by kernel_rfl) (door_met os _)) ?_
  intro W base args ds gs before hval0 hW hcnd hsz0 hL _
  have hval : ∀ (j : Nat) t v, Tryd.f6.params[j]? = some t → args[j]? = some v → Value.okWide Tryd.prog W .any base t v := hval0
  have hW' := hW
  obtain ⟨p, q, hA0, hV, hpq, hfz, hnd⟩ := hW
  have hA : DataW.TrodAll enc Tryd.prog W 0 (fun _ => true) true Tryd.f6.params.toList args.toList ds p := hA0
  rw [Tryd.params6] at hA hval
  obtain ⟨v0, vs0, d0, ds0, p0, q0, hargs, rfl, rfl, h0, r0⟩ := trodAll_cons hA
  obtain ⟨v1, vs1, d1, ds1, p1, q1, rfl, rfl, rfl, h1, r1⟩ := trodAll_cons r0
  obtain ⟨rfl, rfl, rfl⟩ := trodAll_nil r1
  obtain rfl : args = #[v0, v1] := by cases args; simp_all
  obtain ⟨rfl, rfl⟩ := trodVars_none hV
  have hz : (DataW.weightsEach Tryd.prog [22, 32] [d0, d1]).all (· ≤ reachBytes) = true := hsz0
  simp only [DataW.weightsEach, List.all_append, List.append_nil, Bool.and_eq_true] at hz
  obtain ⟨zz0, zz1⟩ := hz
  have o0 := rdw_arg_slice Tryd.underlying22 rdw_row (hval 0 22 v0 rfl rfl) h0 zz0
  obtain ⟨r, ⟨rA, rc, er, cr, rr⟩, kr⟩ := o0
  obtain rfl := List.cons.inj er |>.1
  have o1 := open_islice Tryd.underlying32 Tryd.underlying3 (by kernel_rfl) (hval 1 32 v1 rfl rfl) h1
  obtain ⟨colsA, colsc, colsl, rfl, zcols, rcols, wcols, scols⟩ := o1
  have htab := of_laid hL
  refine (siftZeros_walk r colsl rA colsA rc colsc W kr cr rr rcols htab).mono fun e W' ⟨he, hg⟩ => ?_
  subst he
  exact ⟨_, rfl, law_post hW' rfl rfl Tryd.underlying4 rfl rfl rfl laid_out reads (Grew.below hg)⟩

theorem over : Rows.siftZerosRow.holds Tryd.pinned (OpenSpec.ofChange Rows.siftZerosSpec) :=
  OpenClaim.holds_of_wide 6 Tryd.f6 rfl rfl rfl rfl rfl rfl rfl ⟨rfl, rfl, rfl, rfl, rfl⟩ rfl rfl rfl rfl rfl (by kernel_rfl) Tryd.func6 (by kernel_rfl)
    (of_decide_eq_true (by kernel_rfl)) (by unfold Func.isWrapper; first | (rw [if_pos (by decide +kernel)]; kernel_rfl) | (rw [if_neg (by decide +kernel)]; exact ⟨rfl, rfl⟩))
    (fun os started H enc _ => lifted os started H enc)

theorem proved : Rows.SiftZerosCardSaid :=
  Claim7.holds_tied_plain_at .later [] [.data, .data, .data] true (true, "62f77e6609a3b074cfe6888507b17c646aeb202f5ff98d30075b8d8c50c6a5e1") false
    over (fun _ h => by cases h) (by kernel_rfl) (fun _ h => by cases h) siftZeros_row_tie rfl ⟨rfl, rfl⟩ (by kernel_rfl) rfl
    (fun f fn hf hfn => by
      obtain rfl : f = 6 := Option.some.inj ((show Tryd.prog.funcNamed "trommel/trommellaw20.SiftZeros" = some 6 by kernel_rfl).symm.trans hf) |>.symm
      obtain rfl : fn = Tryd.f6 := (Option.some.inj (Tryd.func6.symm.trans hfn)).symm
      exact ⟨by kernel_rfl, fun j t ht => by
        rw [Tryd.params6] at ht
        have hm : t ∈ [22, 32] := by simpa using Array.mem_of_getElem? ht
        have hall : ([22, 32].all fun u => !Tryd.prog.wantsStandIn u) = true := by kernel_rfl
        exact (show Tryd.prog.wantsStandIn t = false by simpa using List.all_eq_true.1 hall t hm)⟩)
    (by kernel_rfl)

end Go.Proofs.YtklhledcnijchaaDoor.siftZeros
