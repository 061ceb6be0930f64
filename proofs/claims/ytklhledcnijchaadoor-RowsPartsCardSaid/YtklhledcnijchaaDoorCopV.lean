/- rows.copied of values, and rows.Join. Condition: no more than a million values in all. -/
import Derived.Test.YtklhledcnijchaaDoorVls
import Derived.Test.YtklhledcnijchaaDoorApp2
namespace Go.Proofs.YtklhledcnijchaaDoor
open Go.RowKit
attribute [local go_sem] more_cell more_frozen more_more more_setCell more_of_drew more_of_drewN lt_more le_more past_cell past_cell2 past_frozen past_frozen2 past_setCell past_setCell2 mid_cell mid_frozen mid_setCell
attribute [local go_sem ↓] Go.wp_at_zero Go.wp_at_succ

/-- One of several rows: where it lies, how far it may grow, its values. -/
structure VPart where
  A : Option Addr
  k : Nat
  m : List Vl
instance vpart_some : Inhabited VPart := ⟨⟨none, 0, []⟩⟩
def vpartV (p : VPart) : Value := .slice p.A p.m.length p.k
def allV (ps : List VPart) : List Vl := (ps.map VPart.m).flatten
theorem allV_take {ps : List VPart} {j : Nat} (h : j < ps.length) : allV (ps.take (j + 1)) = allV (ps.take j) ++ ps[j].m := by
  unfold allV
  rw [List.take_succ_eq_append_getElem h, List.map_append, List.flatten_append]
  simp
theorem allV_le (ps : List VPart) (j : Nat) : (allV (ps.take j)).length ≤ (allV ps).length := by
  have : allV ps = allV (ps.take j) ++ allV (ps.drop j) := by
    unfold allV
    rw [← List.flatten_append, ← List.map_append, List.take_append_drop]
  rw [this, List.length_append]
  omega
def CvAt (ps : List VPart) (n i : Value) : Prop := ∃ j m : Nat, j ≤ ps.length ∧ i = .int .i64 j ∧ n = .int .i64 m ∧ m = (allV (ps.take j)).length
def CvAt2 (w : World) (ps : List VPart) (N : Nat) (g : Nat) (at_ i : Value) (wr : World) : Prop :=
  ∃ j m : Nat, j ≤ ps.length ∧ i = .int .i64 j ∧ at_ = .int .i64 m ∧ m = (allV (ps.take j)).length ∧ Below w.heap.size w wr ∧ wr.heap[g]? = some (.cells (flatV (allV (ps.take j)) ++ flatV (List.replicate (N - m) nulV)).toArray 31 (0, 0))
/-- A row of values of its own is handed back. -/
def ValsF (w : World) (m : List Vl) (en : Ending) (w' : World) : Prop := ∃ A k, en = .returned (.slice A m.length k) ∧ Grew w w' ∧ w'.ownsRow w.heap.size 31 3 (.slice A m.length k) m.length (flatV m)
/-- A whole block of values is one's own. -/
theorem own_whole {w : World} {g base n : Nat} {m : List Vl} (hn : m.length = n) (h : w.heap[g]? = some (.cells (flatV m).toArray 31 (0, 0))) (hb : base ≤ g) (hl : n ≤ 1000000) : w.ownsRow base 31 3 (.slice (some ⟨g, 0, none⟩) n n) n (flatV m) :=
  ⟨by rw [flatV_len, hn], Or.inr ⟨g, n, _, rfl, hb, h, Nat.le_refl _, by unfold maxLen; omega, by simp [flatV_len, hn], by
    show (flatV m).take (n * 3) = flatV m
    rw [List.take_of_length_le (by rw [flatV_len, hn]; exact Nat.le_refl _)]⟩⟩
theorem own_vals {w : World} {base n c : Nat} {A : Option Addr} {m : List Vl} (h : w.ownsRow base 31 3 (.slice A n c) n (flatV m)) : VlsR (PRow w) A m := vlsR_flat (own_rowV h)
set_option maxHeartbeats 2000000 in
set_option maxRecDepth 100000 in
theorem copied_vals (ps : List VPart) (m : Nat) (hm : ps.length = m) (hm1 : m ≤ 1000000) (hN : (allV ps).length ≤ 1000000) (P : Option Addr) (k : Nat) (w : World) (hp : Row w P (ps.map vpartV)) (hps : ∀ p ∈ ps, Row w p.A (flatV p.m)) :
    Calls Tryd.prog 56 #[.slice P m k] w (ValsF w (allV ps)) := by
  have HM := Lib.hid hm
  have HP := Lib.hid hp
  have HS := Lib.hid hps
  have HL := Lib.hid (fun j => allV_le ps j)
  obtain ⟨N, hNN⟩ : ∃ N, (allV ps).length = N := ⟨_, rfl⟩
  have HN := Lib.hid hNN
  unfold ValsF
  rw [hNN] at hN ⊢
  clear hm hp hps hNN
  go_enter Tryd.func56, Tryd.ntmps56
  go_wp2
  go_loop [3, 12] (fun n i => CvAt ps n i) (fun _ i => m - (intOf i).toNat)
  case atStart => exact ⟨0, 0, Nat.zero_le _, rfl, rfl, by simp [allV]⟩
  case round =>
    obtain ⟨j, x, hj, rfl, rfl, hx⟩ := hrel
    rw [HM.out] at hj
    have hx1 := HL.out j
    rw [HN.out, ← hx] at hx1
    have HX := Lib.hid hx
    clear hx
    by_cases h : j < m
    · have h1 : j < ps.length := by rw [HM.out]; exact h
      obtain ⟨b, o, rfl, hb, hc⟩ := HP.out.at_ (k := j) (by simpa using h1)
      rw [List.getElem_map] at hc
      have hx2 := HL.out (j + 1)
      rw [HN.out, allV_take h1, List.length_append, ← HX.out] at hx2
      have HT := Lib.hid (allV_take h1)
      unfold vpartV at hc
      generalize ps[j] = p at *
      generalize hpm : p.m.length = pn at *
      have HPM := Lib.hid hpm
      clear hpm
      go_wp2
      exact ⟨⟨j + 1, x + pn, by rw [HM.out]; omega, by go_num, by go_num, by rw [HT.out, List.length_append, HX.out, HPM.out]⟩, by simp only [intOf]; omega⟩
    · obtain rfl : j = m := by omega
      have hxN : x = N := by
        have := HX.out
        rwa [List.take_of_length_le (Nat.le_of_eq HM.out), HN.out] at this
      subst hxN
      clear HX hx1
      go_wp2_with (at_make; refine wpList_make_rows _ rfl _ _ 22 rfl 31 (.agg #[.int .i64 0, .int .i64 0, .string ⟨#[]⟩]) #[.int .i64 0, .int .i64 0, .string ⟨#[]⟩] 3 32 Tryd.underlying22 infoV rfl _ _ x rfl rfl (by omega) (by omega) ?_; rw [made_flat'])
      go_loopw [7, 25] (fun a i wr => CvAt2 w ps x w.heap.size a i wr) (fun _ i _ => j - (intOf i).toNat)
      case atStart =>
        refine ⟨0, 0, Nat.zero_le _, rfl, rfl, by simp [allV], (Below.refl _ w).alloc (Nat.le_refl _) _, ?_⟩
        rw [heap_alloc_new]
        simp [allV, flatV]
      case round =>
        obtain ⟨q, y, hq, rfl, rfl, hy, hbl, hcel⟩ := hrel
        rw [HM.out] at hq
        have hy1 := HL.out q
        rw [HN.out, ← hy] at hy1
        by_cases h : q < j
        · have h1 : q < ps.length := by rw [HM.out]; exact h
          have hy2 := HL.out (q + 1)
          rw [HN.out, allV_take h1, List.length_append, ← hy] at hy2
          obtain ⟨b, o, rfl, hb, hc⟩ := (HP.out.grew (Grew.of_below hbl)).at_ (k := q) (by simpa using h1)
          rw [List.getElem_map] at hc
          unfold vpartV at hc
          have HPR := Lib.hid (HS.out _ (List.getElem_mem h1))
          have hfl : (flatV (allV (ps.take q))).length = y * 3 := by rw [flatV_len, hy]
          have HFT := Lib.hid (allV_take h1)
          have HY := Lib.hid hy
          have HBL := Lib.hid hbl
          have HCEL := Lib.hid hcel
          have HFL := Lib.hid hfl
          clear hy hbl hcel hfl
          generalize ps[q] = p at *
          generalize hpm : p.m.length = pn at *
          have HPM := Lib.hid hpm
          have HSP : Hid (splice (flatV (allV (ps.take q)) ++ flatV (List.replicate (x - y) nulV)) (y * 3) (flatV p.m) = flatV (allV (ps.take (q + 1))) ++ flatV (List.replicate (x - (y + pn)) nulV)) := Lib.hid (by
            unfold splice
            rw [HFT.out, flatV_app, flatV_len, HPM.out, List.take_left' HFL.out, List.append_assoc]
            congr 2
            rw [List.drop_append, HFL.out, List.drop_of_length_le (by rw [HFL.out]; omega), List.nil_append, show y * 3 + pn * 3 - y * 3 = pn * 3 by omega, flatV_drop, List.drop_replicate]
            congr 2
            omega)
          have hpn : (flatV p.m).length = pn * 3 := by rw [flatV_len, hpm]
          clear hpm
          have HPV := Lib.hid (flatV_one p.m)
          have hfit : ∀ k, k ≤ pn → y * 3 + k * 3 ≤ (flatV (allV (ps.take q)) ++ flatV (List.replicate (x - y) nulV)).length := fun k hk => by rw [List.length_append, HFL.out, flatV_len, List.length_replicate]; omega
          by_cases hyx : y = x
          · have hp0 : pn = 0 := by omega
            obtain ⟨w2, hcr, hh2, hb2⟩ := run_copy_into (P := Tryd.prog) (T := 22) (ty := 3) (size := 3) (o := y * 3) (dLen := 0) (dCap := 0) (sCap := p.k) (dp := some ⟨w.heap.size, 0, none⟩) Tryd.underlying22 (by kernel_rfl) HCEL.out hpn (by omega) (by omega) (HPR.out.grew (Grew.of_below HBL.out)) (hfit pn (Nat.le_refl _)) HPV.out (by decide) HBL.out (Nat.le_refl _)
            have HB2 := Lib.hid hb2
            have HH2 := Lib.hid hh2
            rw [HSP.out] at HH2
            clear hh2 hb2 hpn hfit
            rw [hp0] at hcr hc hy2
            subst hyx
            go_wp2
            exact ⟨⟨q + 1, y + pn, by rw [HM.out]; omega, by go_num, by rw [hp0]; rfl, by rw [HFT.out, List.length_append, HY.out, HPM.out], HB2.out, HH2.out⟩, by simp only [intOf]; omega⟩
          · have hyx2 : y < x := by omega
            obtain ⟨w2, hcr, hh2, hb2⟩ := run_copy_into (P := Tryd.prog) (T := 22) (ty := 3) (size := 3) (dLen := x - y) (dCap := x - y) (sCap := p.k) (dp := some ⟨w.heap.size, y * 3, none⟩) Tryd.underlying22 (by kernel_rfl) HCEL.out hpn (by omega) (fun _ => rfl) (HPR.out.grew (Grew.of_below HBL.out)) (hfit pn (Nat.le_refl _)) HPV.out (by decide) HBL.out (Nat.le_refl _)
            have HB2 := Lib.hid hb2
            have HH2 := Lib.hid hh2
            rw [HSP.out] at HH2
            clear hh2 hb2 hpn hfit
            go_wp2
            refine ⟨⟨q + 1, y + pn, by rw [HM.out]; omega, by go_num, by go_num, by rw [HFT.out, List.length_append, HY.out, HPM.out], HB2.out, HH2.out⟩, by simp only [intOf]; omega⟩
        · obtain rfl : q = j := by omega
          have hyN : y = x := by
            rwa [List.take_of_length_le (Nat.le_of_eq HM.out), HN.out] at hy
          have hR : ∃ A k, Ending.returned (.slice (some ⟨w.heap.size, 0, none⟩) x x) = Ending.returned (.slice A x k) ∧ Grew w wr ∧ wr.ownsRow w.heap.size 31 3 (.slice A x k) x (flatV (allV ps)) := by
            refine ⟨some ⟨w.heap.size, 0, none⟩, x, rfl, Grew.of_below hbl, ?_⟩
            rw [hyN, Nat.sub_self, List.replicate_zero, List.take_of_length_le (Nat.le_of_eq HM.out)] at hcel
            have e0 : flatV ([] : List Vl) = [] := rfl
            rw [e0, List.append_nil] at hcel
            exact own_whole HN.out hcel (Nat.le_refl _) hN
          have HRR := Lib.hid hR
          clear hR hcel hbl hy hy1
          go_wp2
          go_ret
          exact HRR.out
theorem join_vals (ps : List VPart) (m : Nat) (hm : ps.length = m) (hm1 : m ≤ 1000000) (hN : (allV ps).length ≤ 1000000) (P : Option Addr) (k : Nat) (w : World) (hp : Row w P (ps.map vpartV)) (hps : ∀ p ∈ ps, Row w p.A (flatV p.m)) :
    Calls Tryd.prog 23 #[.slice P m k] w (ValsF w (allV ps)) := by
  have HC := Lib.hid (copied_vals ps m hm hm1 hN P k w hp hps)
  clear hp hps hm
  go_enter Tryd.func23, Tryd.ntmps23
  go_wp2_with fail
  refine HC.out.mono ?_
  rintro e w1 ⟨A, c, rfl, hg, hr⟩
  have HR := Lib.hid hr
  have HG := Lib.hid hg
  clear hr hg HC
  generalize hln : (allV ps).length = ln at *
  have HLn := Lib.hid hln
  clear hln
  go_wp2
  go_ret
  exact ⟨A, c, by rw [HLn.out]; rfl, HG.out, by rw [HLn.out]; exact HR.out⟩
end Go.Proofs.YtklhledcnijchaaDoor
