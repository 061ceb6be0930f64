/- rows.copied of lists of rows. Condition: no more than a million rows in all. -/
import Derived.Test.YtklhledcnijchaaDoorTab9
import Derived.Laws.CopyOwn
import Derived.Deep.OwnRows
namespace Go.Proofs.YtklhledcnijchaaDoor
open Go.RowKit
attribute [local go_sem] more_cell more_frozen more_more more_setCell more_of_drew more_of_drewN lt_more le_more past_cell past_cell2 past_frozen past_frozen2 past_setCell past_setCell2 mid_cell mid_frozen mid_setCell
attribute [local go_sem ↓] Go.wp_at_zero Go.wp_at_succ

/-- One of several slices: where it lies, how long, which cells. -/
structure Part where
  A : Option Addr
  n : Nat
  k : Nat
  xs : List Value
instance part_some : Inhabited Part := ⟨⟨none, 0, 0, []⟩⟩
def PartR (w : World) (p : Part) : Prop := p.xs.length = p.n ∧ Row w p.A p.xs ∧ ∀ u ∈ p.xs, u.oneCell' = true
def lensP (ps : List Part) : Nat := (ps.map Part.n).sum
def flatP (ps : List Part) : List Value := (ps.map Part.xs).flatten
theorem lensP_take {ps : List Part} {j : Nat} (h : j < ps.length) : lensP (ps.take (j + 1)) = lensP (ps.take j) + ps[j].n := by
  unfold lensP
  rw [List.take_succ_eq_append_getElem h, List.map_append, List.sum_append]
  simp
theorem flatP_take {ps : List Part} {j : Nat} (h : j < ps.length) : flatP (ps.take (j + 1)) = flatP (ps.take j) ++ ps[j].xs := by
  unfold flatP
  rw [List.take_succ_eq_append_getElem h, List.map_append, List.flatten_append]
  simp
theorem lensP_le (ps : List Part) (j : Nat) : lensP (ps.take j) ≤ lensP ps := by
  have : lensP ps = lensP (ps.take j) + lensP (ps.drop j) := by
    unfold lensP
    rw [← List.sum_append, ← List.map_append, List.take_append_drop]
  omega
theorem flatP_len {w : World} : ∀ {ps : List Part}, (∀ p ∈ ps, PartR w p) → (flatP ps).length = lensP ps
  | [], _ => rfl
  | p :: ps, h => by
    have h1 := flatP_len (ps := ps) fun q hq => h q (by simp [hq])
    have h2 := (h p (by simp)).1
    simp only [flatP, lensP, List.map_cons, List.flatten_cons, List.length_append, List.sum_cons] at h1 ⊢
    omega
theorem flatP_one {w : World} {ps : List Part} (h : ∀ p ∈ ps, PartR w p) : ∀ u ∈ flatP ps, u.oneCell' = true := by
  intro u hu
  unfold flatP at hu
  rw [List.mem_flatten] at hu
  obtain ⟨l, hl, hu⟩ := hu
  obtain ⟨p, hp, rfl⟩ := List.mem_map.1 hl
  exact (h p hp).2.2 u hu
theorem run_copy_in {P : Program} {w : World} {T elem ty t : TypeId} (hu : P.underlying T = some (.slice elem)) (hs : (P.info? elem).map (·.size) = some 1) {g o dLen dCap sLen sCap : Nat} {dp sp : Option Addr} {cur xs : List Value}
    (hg : w.heap[g]? = some (.cells cur.toArray t (0, 0))) (hx : xs.length = sLen) (hle : sLen ≤ dLen) (hd : 0 < sLen → dp = some ⟨g, o, none⟩) (hr : Row w sp xs) (hfit : o + sLen ≤ cur.length) (h1 : ∀ u ∈ xs, u.oneCell' = true)
    {B : Nat} {w0 : World} (hb : Below B w0 w) (hBg : B ≤ g) :
    ∃ w', (Builtin.copy_ #[T, T] ty #[.slice dp dLen dCap, .slice sp sLen sCap]).run P w = .ok (.int .i64 sLen) w' ∧ w'.heap[g]? = some (.cells (splice cur o xs).toArray t (0, 0)) ∧ Below B w0 w' := by
  have hmin : Nat.min sLen dLen = sLen := Nat.min_eq_left hle
  by_cases h0 : sLen = 0
  · refine ⟨w, ?_, ?_, hb⟩
    · have := run_copy_none (P := P) w T T ty elem dp sp dLen dCap sLen sCap hu hs (by rw [hmin]; exact h0)
      rw [this, h0]; rfl
    · have hxs : xs = [] := List.eq_nil_of_length_eq_zero (by omega)
      rw [hg, hxs]
      unfold splice
      simp
  · obtain rfl := hd (by omega)
    rcases hr with hr | ⟨b', o', rfl, hlt, hc⟩
    · rw [hr] at hx; simp at hx; omega
    · have := run_copy_row (P := P) w T T ty elem g o dLen dCap ⟨b', o', none⟩ sLen sCap cur.toArray t xs hu hs hg (by rw [hmin]; exact hx) (fun j v hv => by rw [add_plain]; exact hc j v hv) (by simpa [hx] using hfit) h1
      rw [hx] at this
      exact ⟨_, this, by rw [setRow_heap w g _ _ t (0, 0) hg]; unfold splice; simp [hx], below_setRow hb hBg _⟩
def partV (p : Part) : Value := .slice p.A p.n p.k
def CpAt (ps : List Part) (n i : Value) : Prop := ∃ j m : Nat, j ≤ ps.length ∧ i = .int .i64 j ∧ n = .int .i64 m ∧ m = lensP (ps.take j)
def CpAt2 (w : World) (ps : List Part) (N : Nat) (g : Nat) (at_ i : Value) (wr : World) : Prop :=
  ∃ j m : Nat, j ≤ ps.length ∧ i = .int .i64 j ∧ at_ = .int .i64 m ∧ m = lensP (ps.take j) ∧ Below w.heap.size w wr ∧ wr.heap[g]? = some (.cells (flatP (ps.take j) ++ List.replicate (N - m) (Value.slice none 0 0)).toArray 22 (0, 0))
/-- A slice of its own that is not nil, and owned. -/
def MineO (w : World) (e : TypeId) (n : Nat) (xs : List Value) (en : Ending) (w' : World) : Prop := ∃ g k, en = .returned (.slice (some ⟨g, 0, none⟩) n k) ∧ n ≤ k ∧ w.heap.size ≤ g ∧ Grew w w' ∧ w'.ownsRow w.heap.size e 1 (.slice (some ⟨g, 0, none⟩) n k) n xs
set_option maxHeartbeats 1000000 in
set_option maxRecDepth 100000 in
theorem copied_own (ps : List Part) (m : Nat) (hm : ps.length = m) (hm1 : m ≤ 1000000) (hN : lensP ps ≤ 1000000) (P : Option Addr) (k : Nat) (w : World) (hp : Row w P (ps.map partV)) (hps : ∀ p ∈ ps, PartR w p) :
    Calls Tryd.prog 54 #[.slice P m k] w (MineO w 22 (lensP ps) (flatP ps)) := by
  have HM := Lib.hid hm
  have HP := Lib.hid hp
  have HS := Lib.hid hps
  have HL := Lib.hid (fun j => lensP_le ps j)
  obtain ⟨N, hNN⟩ : ∃ N, lensP ps = N := ⟨_, rfl⟩
  have HN := Lib.hid hNN
  rw [hNN] at hN ⊢
  clear hm hp hps hNN
  obtain ⟨i0, hi, hz0, hz1, hz2⟩ := info_parts infoRw
  have HJ := Lib.hid hi
  have HJ0 := Lib.hid hz0
  have HJ1 := Lib.hid hz1
  have HJ2 := Lib.hid hz2
  clear hi hz0 hz1 hz2
  go_enter Tryd.func54, Tryd.ntmps54
  go_wp2
  go_loop [3, 12] (fun n i => CpAt ps n i) (fun _ i => m - (intOf i).toNat)
  case atStart => exact ⟨0, 0, Nat.zero_le _, rfl, rfl, by simp [lensP]⟩
  case round =>
    obtain ⟨j, x, hj, rfl, rfl, hx⟩ := hrel
    rw [HM.out] at hj
    have hx1 := HL.out j
    rw [HN.out, ← hx] at hx1
    have HX := Lib.hid hx
    clear hx
    by_cases h : j < m
    · have h1 : j < ps.length := by rw [HM.out]; exact h
      obtain ⟨b, o, rfl, hb, hc⟩ := HP.out.at_ (k := j) (by simpa using h1)
      rw [List.getElem_map] at hc
      have hx2 := HL.out (j + 1)
      rw [HN.out, lensP_take h1, ← HX.out] at hx2
      have HT := Lib.hid (lensP_take h1)
      unfold partV at hc
      generalize ps[j] = p at *
      go_wp2
      exact ⟨⟨j + 1, x + p.n, by rw [HM.out]; omega, by go_num, by go_num, by rw [HT.out, HX.out]⟩, by simp only [intOf]; omega⟩
    · obtain rfl : j = m := by omega
      have hxN : x = N := by
        have := HX.out
        rwa [List.take_of_length_le (Nat.le_of_eq HM.out), HN.out] at this
      subst hxN
      clear HX hx1
      go_wp2_with (at_make; refine wpList_make_row _ rfl _ _ 24 rfl 22 i0 (.slice none 0 0) Tryd.underlying24 HJ.out HJ0.out HJ1.out rfl _ _ x rfl rfl (by rw [HJ2.out]; omega) (by omega) ?_)
      go_loopw [7, 25] (fun a i wr => CpAt2 w ps x w.heap.size a i wr) (fun _ i _ => j - (intOf i).toNat)
      case atStart =>
        refine ⟨0, 0, Nat.zero_le _, rfl, rfl, by simp [lensP], (Below.refl _ w).alloc (Nat.le_refl _) _, ?_⟩
        rw [heap_alloc_new]
        congr 2
        apply Array.ext'
        rw [toList_madeCells_one]
        simp [flatP]
      case round =>
        obtain ⟨q, y, hq, rfl, rfl, hy, hbl, hcel⟩ := hrel
        rw [HM.out] at hq
        have hy1 := HL.out q
        rw [HN.out, ← hy] at hy1
        by_cases h : q < j
        · have h1 : q < ps.length := by rw [HM.out]; exact h
          have hy2 := HL.out (q + 1)
          rw [HN.out, lensP_take h1, ← hy] at hy2
          obtain ⟨b, o, rfl, hb, hc⟩ := (HP.out.grew (Grew.of_below hbl)).at_ (k := q) (by simpa using h1)
          rw [List.getElem_map] at hc
          unfold partV at hc
          have HPR := Lib.hid (HS.out _ (List.getElem_mem h1))
          have hfl : (flatP (ps.take q)).length = y := by rw [flatP_len fun p hp => HS.out p (List.mem_of_mem_take hp), hy]
          have HFT := Lib.hid (flatP_take h1)
          have HLT := Lib.hid (lensP_take h1)
          have HY := Lib.hid hy
          have HBL := Lib.hid hbl
          have HCEL := Lib.hid hcel
          have HFL := Lib.hid hfl
          clear hy hbl hcel hfl
          generalize ps[q] = p at *
          have HSP : Hid (splice (flatP (ps.take q) ++ List.replicate (x - y) (Value.slice none 0 0)) y p.xs = flatP (ps.take (q + 1)) ++ List.replicate (x - (y + p.n)) (Value.slice none 0 0)) := Lib.hid (by
            unfold splice
            rw [HFT.out, HPR.out.1, List.take_left' HFL.out, List.append_assoc]
            congr 2
            rw [List.drop_append, HFL.out, List.drop_of_length_le (by rw [HFL.out]; omega), List.nil_append, show y + p.n - y = p.n by omega, List.drop_replicate]
            congr 1
            omega)
          have hpn : p.xs.length = p.n := HPR.out.1
          by_cases hyx : y = x
          · have hp0 : p.n = 0 := by omega
            obtain ⟨w2, hcr, hh2, hb2⟩ := run_copy_in (P := Tryd.prog) (T := 24) (ty := 3) (o := y) (dLen := 0) (dCap := 0) (sCap := p.k) (dp := some ⟨w.heap.size, 0, none⟩) Tryd.underlying24 (by kernel_rfl) HCEL.out hpn (by omega) (by omega) (HPR.out.2.1.grew (Grew.of_below HBL.out)) (by simp [HFL.out]; omega) HPR.out.2.2 HBL.out (Nat.le_refl _)
            have HB2 := Lib.hid hb2
            have HH2 := Lib.hid hh2
            rw [HSP.out] at HH2
            clear hh2 hb2 hpn
            rw [hp0] at hcr hc hy2
            subst hyx
            go_wp2
            exact ⟨⟨q + 1, y + p.n, by rw [HM.out]; omega, by go_num, by rw [hp0]; rfl, by rw [HLT.out, HY.out, hp0], HB2.out, HH2.out⟩, by simp only [intOf]; omega⟩
          · have hyx2 : y < x := by omega
            obtain ⟨w2, hcr, hh2, hb2⟩ := run_copy_in (P := Tryd.prog) (T := 24) (ty := 3) (dLen := x - y) (dCap := x - y) (sCap := p.k) (dp := some ⟨w.heap.size, y, none⟩) Tryd.underlying24 (by kernel_rfl) HCEL.out hpn (by omega) (fun _ => rfl) (HPR.out.2.1.grew (Grew.of_below HBL.out)) (by simp [HFL.out]; omega) HPR.out.2.2 HBL.out (Nat.le_refl _)
            have HB2 := Lib.hid hb2
            have HH2 := Lib.hid hh2
            rw [HSP.out] at HH2
            clear hh2 hb2 hpn
            go_wp2
            refine ⟨⟨q + 1, y + p.n, by rw [HM.out]; omega, by go_num, by go_num, by rw [HLT.out, HY.out], HB2.out, HH2.out⟩, by simp only [intOf]; omega⟩
        · obtain rfl : q = j := by omega
          have hyN : y = x := by
            rwa [List.take_of_length_le (Nat.le_of_eq HM.out), HN.out] at hy
          have hR : MineO w 22 x (flatP ps) (.returned (.slice (some ⟨w.heap.size, 0, none⟩) x x)) wr := by
            refine ⟨w.heap.size, x, rfl, Nat.le_refl _, Nat.le_refl _, Grew.of_below hbl, ?_⟩
            rw [hyN, Nat.sub_self, List.replicate_zero, List.append_nil, List.take_of_length_le (Nat.le_of_eq HM.out)] at hcel
            have hln : (flatP ps).length = x := by rw [flatP_len HS.out, HN.out]
            exact ⟨by rw [hln, Nat.mul_one], Or.inr ⟨_, x, _, rfl, Nat.le_refl _, hcel, Nat.le_refl _, by unfold maxLen; omega, by simp [hln], by
              show (flatP ps).take (x * 1) = flatP ps
              rw [List.take_of_length_le (by rw [hln, Nat.mul_one]; exact Nat.le_refl _)]⟩⟩
          have HRR := Lib.hid hR
          clear hR hcel hbl hy hy1
          go_wp2
          go_ret
          exact HRR.out
theorem copied_rows (ps : List Part) (m : Nat) (hm : ps.length = m) (hm1 : m ≤ 1000000) (hN : lensP ps ≤ 1000000) (P : Option Addr) (k : Nat) (w : World) (hp : Row w P (ps.map partV)) (hps : ∀ p ∈ ps, PartR w p) :
    Calls Tryd.prog 54 #[.slice P m k] w (MineF w 22 (lensP ps) (flatP ps)) :=
  (copied_own ps m hm hm1 hN P k w hp hps).mono fun _ _ ⟨g, k, he, hk, _, hg, ho⟩ => ⟨some ⟨g, 0, none⟩, k, he, hk, hg, TRow.own ho⟩
end Go.Proofs.YtklhledcnijchaaDoor
