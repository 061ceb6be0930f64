/- Layer 5: which tables may be, by the program. Condition: tables that lie in memory that is there. -/
import Derived.Test.YtcokhgomibimcaaTab3
import Derived.Deep.OwnRows
namespace Go.Proofs.Ytcokhgomibimcaa
open Go.RowKit
attribute [local go_sem] more_cell more_frozen more_more more_setCell more_of_drew more_of_drewN lt_more le_more past_cell past_cell2 past_frozen past_frozen2 past_setCell past_setCell2 mid_cell mid_frozen mid_setCell
attribute [local go_sem ↓] Go.wp_at_zero Go.wp_at_succ

theorem not_true' {p : Prop} {t : Bool} (h : t = true ↔ p) (hn : ¬ p) : t = false := by
  cases t
  · rfl
  · exact absurd (h.1 rfl) hn
/-- Numbers are handed back, in a row. -/
def KindsF (w : World) (l : List Int) (e : Ending) (w' : World) : Prop := ∃ A k, e = .returned (.slice A l.length k) ∧ Grew w w' ∧ Row w' A (iV l)
def KindsAt (w : World) (cs : List Cl) (v i : Value) (wr : World) : Prop :=
  ∃ (j : Nat) (A : Option Addr) (c : Nat), j ≤ cs.length ∧ i = .int .i64 j ∧ v = .slice A j c ∧ Grew w wr ∧ wr.ownsRow w.heap.size 3 1 (.slice A j c) j (iV ((cs.take j).map Cl.kind))
set_option maxHeartbeats 1000000 in
theorem kinds_any (x : Tb) (A B : Option Addr) (k j : Nat) (hx : x.cols.length ≤ 1000000) (w : World) (ra : ClsR (PRow w) A x.cols) :
    Calls Try.prog 62 #[tbV x A k B j] w (KindsF w (x.cols.map Cl.kind)) := by
  obtain ⟨name, cols, rows⟩ := x
  simp only at *
  unfold tbV
  simp only
  have RA := Lib.hid ra
  obtain ⟨i0, hi, hz0, hz1, hz2⟩ := info_parts infoI
  have HJ := Lib.hid hi
  have HJ0 := Lib.hid hz0
  have HJ1 := Lib.hid hz1
  have HJ2 := Lib.hid hz2
  clear ra hi hz0 hz1 hz2
  obtain ⟨n, hn⟩ : ∃ n, cols.length = n := ⟨_, rfl⟩
  rw [hn] at hx ⊢
  have HN := Lib.hid hn
  clear hn
  go_enter Try.func62, Try.ntmps62
  go_wp2_with (at_make; refine wpList_make_own _ rfl _ _ 23 rfl w.heap.size 3 i0 (.int .i64 0) 1 Try.underlying23 HJ.out HJ0.out HJ1.out _ _ _ n rfl rfl rfl (by rw [HJ2.out]; omega) (by unfold maxLen; omega) (by simp) ?_; intro w1 ho1 hg1; have HO1 := Lib.hid ho1; have HG1 : Hid (Grew w w1) := Lib.hid (Grew.grown ((Grew.refl w).alloc _) hg1 (fun k hk => by cases hk)); have HB1 := Lib.hid ((Blok.new w 80 #[.string name, .slice A n k, .slice B rows.length j] _ rfl).grown hg1 (by simp)); have d1 := HB1.out.cell 1; have dl := HB1.out.lt; simp at d1; clear ho1 hg1)
  go_loopw [3, 13] (fun v i wr => KindsAt w cols v i wr) (fun _ i _ => n - (intOf i).toNat)
  case atStart => exact ⟨0, _, _, Nat.zero_le _, rfl, rfl, HG1.out, by simpa [iV] using HO1.out⟩
  case round =>
    obtain ⟨q, A2, c2, hq, rfl, rfl, hg, ho⟩ := hrel
    rw [HN.out] at hq
    have HG := Lib.hid hg
    have HO := Lib.hid ho
    clear hg ho
    by_cases h : q < n
    · have h1 : q < cols.length := by rw [HN.out]; exact h
      obtain ⟨b, o, rfl, hb, a0, a1⟩ := clsR_at (RA.out.grew HG.out) h1
      have HT : Hid (iV ((cols.take (q + 1)).map Cl.kind) = iV ((cols.take q).map Cl.kind) ++ [.int .i64 cols[q].kind]) := Lib.hid (by
        rw [List.take_succ_eq_append_getElem h1, List.map_append, iV_snoc]; rfl)
      generalize cols[q] = c at *
      go_wp2_with (at_builtin; refine wpList_app rfl _ _ 23 3 rfl w (.int .i64 0) 8 Try.underlying23 infoI rfl (by decide) _ q _ rfl (own_alloc (own_alloc HO.out _) _) _ 1 1 [.int .i64 c.kind] rfl rfl (row_one _ _ _ _ (by simp)) (by simp [Value.oneCell']) (by omega) ((HG.out.alloc _).alloc _) ?_; intro A' c' w' ho' _ hg' _ _; have HO2 := Lib.hid ho'; have HG2 := Lib.hid hg'; clear ho' hg')
      exact ⟨⟨q + 1, A', c', by rw [HN.out]; omega, by go_num, rfl, HG2.out, by rw [HT.out]; exact HO2.out⟩, by simp only [intOf]; omega⟩
    · obtain rfl : q = n := by omega
      have HR : Hid (KindsF w (cols.map Cl.kind) (.returned (.slice A2 q c2)) wr) := Lib.hid ⟨A2, c2, by rw [List.length_map, HN.out], HG.out, by
        have := own_rowI HO.out
        rwa [List.take_of_length_le (Nat.le_of_eq HN.out)] at this⟩
      clear HO HO1 HG1 HB1
      go_wp2
      go_ret
      exact HR.out
def FitAt (w : World) (ks : List Int) (r : List Vl) (i : Value) (wr : World) : Prop := ∃ j : Nat, j ≤ r.length ∧ i = .int .i64 j ∧ Grew w wr ∧ ∀ i, i < j → fitV (ks.getD i 0) (r.getD i default)
theorem iV_at {w : World} {A : Option Addr} {l : List Int} {i : Nat} (h : Row w A (iV l)) (hi : i < l.length) : ∃ b o, A = some ⟨b, o, none⟩ ∧ b < w.heap.size ∧ w.cell? ⟨b, o + i, none⟩ = some (.int .i64 (l.getD i 0)) := by
  obtain ⟨b, o, hA, hb, hc⟩ := h.at_ (k := i) (by simp [iV, hi])
  exact ⟨b, o, hA, hb, by rw [hc]; simp [iV, List.getD, hi]⟩
set_option maxHeartbeats 1000000 in
theorem fits_any (r : List Vl) (ks : List Int) (A B : Option Addr) (k j : Nat) (hr : r.length ≤ 140737488355328) (t : Bool) (ht : t = true ↔ fitB ks r) (w : World) (ra : VlsR (PRow w) A r) (rb : Row w B (iV ks)) :
    Gives Try.prog 122 #[.slice A r.length k, .slice B ks.length j] w (.bool t) := by
  have RA := Lib.hid ra
  have RB := Lib.hid rb
  have HT := Lib.hid ht
  clear ra rb ht
  unfold Gives
  by_cases hl : r.length = ks.length
  · have HL := Lib.hid hl
    rw [← hl]
    clear hl
    go_enter Try.func122, Try.ntmps122
    go_wp2
    go_loopw [14] (fun i wr => FitAt w ks r i wr) (fun i _ => r.length - (intOf i).toNat)
    case atStart => exact ⟨0, Nat.zero_le _, rfl, by (show Grew _ _; repeat (first | exact Grew.refl _ | refine Grew.alloc ?_ _ | refine Grew.drew ?_ | refine Grew.more ?_ _)), fun i hi => by omega⟩
    case round =>
      obtain ⟨q, hq, rfl, hg, ha⟩ := hrel
      have HG := Lib.hid hg
      have HA := Lib.hid ha
      clear hg ha
      by_cases h : q < r.length
      · obtain ⟨b, o, rfl, hb, c0, c1, c2⟩ := vlsR_at (RA.out.grew HG.out) h
        have HR := Lib.hid (getD_of h default)
        have HGn := HG.out.alloc (.cells #[.int .i64 r[q].k, .int .i64 r[q].i, .string r[q].s] 51)
        obtain ⟨b2, o2, rfl, hb2, f0⟩ := iV_at (i := q) (RB.out.grew HGn) (by rw [← HL.out]; exact h)
        have HBad : Hid (¬ fitV (ks.getD q 0) (r.getD q default) → t = false) := Lib.hid fun hn => not_true' HT.out fun hf => hn (hf.2 q h)
        have HGd : Hid (fitV (ks.getD q 0) (r.getD q default) → ∀ i, i < q + 1 → fitV (ks.getD i 0) (r.getD i default)) := Lib.hid fun hf i hi => by
          rcases Nat.lt_or_ge i q with h3 | h3
          · exact HA.out i h3
          · have : i = q := by omega
            subst this; exact hf
        rw [HR.out] at HBad HGd
        generalize r[q] = v at *
        generalize ks.getD q 0 = kq at *
        go_upto_region 6 with fail
        obtain ⟨W1, hW1⟩ : ∃ W1 : World, W1 = wr.alloc (.cells #[.int .i64 v.k, .int .i64 v.i, .string v.s] 51) := ⟨_, rfl⟩
        have hbk := Blok.new wr 51 #[.int .i64 v.k, .int .i64 v.i, .string v.s] _ rfl
        rw [← hW1] at hbk HGn f0 hb2 ⊢
        have d0 := hbk.cell 0
        have d1 := hbk.cell 1
        have d2 := hbk.cell 2
        have dl := hbk.lt
        simp at d0 d1 d2
        have HG2 : Hid (Grew w W1) := Lib.hid HGn
        clear hbk HGn hW1 c0 c1 c2 hb HA HT
        obtain ⟨vk, vi, vs⟩ := v
        simp only at *
        obtain ⟨tr, htr⟩ : ∃ tr, rightV vk vi vs = tr := ⟨_, rfl⟩
        obtain ⟨tn, htn⟩ : ∃ tn, (vk == 0) = tn := ⟨_, rfl⟩
        obtain ⟨te, hte⟩ : ∃ te, (vk != kq) = te := ⟨_, rfl⟩
        have HRt : Hid (∀ W, Gives Try.prog 152 #[.agg #[.int .i64 vk, .int .i64 vi, .string vs]] W (.bool tr)) := Lib.hid fun W => by rw [← htr]; exact right_any _ _ _ _
        have HNt : Hid (∀ W, Gives Try.prog 153 #[.agg #[.int .i64 vk, .int .i64 vi, .string vs]] W (.bool tn)) := Lib.hid fun W => by rw [← htn]; exact isnull_any _ _ _ _
        have HF : Hid ((tr = true ∧ (tn = true ∨ te = false)) ↔ fitV kq ⟨vk, vi, vs⟩) := Lib.hid (by
          unfold fitV
          simp only
          rw [htr, ← htn, ← hte]
          simp)
        clear htr htn
        cases tr
        · have HFF := Lib.hid (HBad.out fun hf => by have := HF.out.2 hf; simp at this)
          obtain rfl := HFF.out
          refine wp_region_more (by kernel_rfl) (by kernel_rfl) ?_
          repeat (go_big_quiet_step (((first | (go_at_call 152; exact (HRt.out _).within) | (go_at_call 153; exact (HNt.out _).within)))))
          refine wpQuiet_nil ?_
          rintro _ ⟨z, rfl⟩
          go_wp2
          go_ret
          exact ⟨rfl, HG2.out.more z⟩
        · cases tn
          · cases te
            · have HFF := Lib.hid (HGd.out (HF.out.1 (by simp)))
              refine wp_region_more (by kernel_rfl) (by kernel_rfl) ?_
              repeat (go_big_quiet_step (((first | (go_at_call 152; exact (HRt.out _).within) | (go_at_call 153; exact (HNt.out _).within)))))
              refine wpQuiet_nil ?_
              rintro _ ⟨z, rfl⟩
              go_wp2
              exact ⟨⟨q + 1, by omega, by go_num, HG2.out.more z, HFF.out⟩, by simp only [intOf]; omega⟩
            · have HFF := Lib.hid (HBad.out fun hf => by have := HF.out.2 hf; simp at this)
              obtain rfl := HFF.out
              refine wp_region_more (by kernel_rfl) (by kernel_rfl) ?_
              repeat (go_big_quiet_step (((first | (go_at_call 152; exact (HRt.out _).within) | (go_at_call 153; exact (HNt.out _).within)))))
              refine wpQuiet_nil ?_
              rintro _ ⟨z, rfl⟩
              go_wp2
              go_ret
              exact ⟨rfl, HG2.out.more z⟩
          · have HFF := Lib.hid (HGd.out (HF.out.1 (by simp)))
            refine wp_region_more (by kernel_rfl) (by kernel_rfl) ?_
            repeat (go_big_quiet_step (((first | (go_at_call 152; exact (HRt.out _).within) | (go_at_call 153; exact (HNt.out _).within)))))
            refine wpQuiet_nil ?_
            rintro _ ⟨z, rfl⟩
            go_wp2
            exact ⟨⟨q + 1, by omega, by go_num, HG2.out.more z, HFF.out⟩, by simp only [intOf]; omega⟩
      · obtain rfl : q = r.length := by omega
        have ht : t = true := HT.out.2 ⟨HL.out, HA.out⟩
        subst ht
        clear HT
        go_wp2
        go_ret
        exact ⟨rfl, HG.out⟩
  · have e0 : ((r.length : Int) != (ks.length : Int)) = true := by rw [bne_iff_ne]; omega
    have hf : t = false := not_true' HT.out (fun e => hl e.1)
    subst hf
    go_enter Try.func122, Try.ntmps122
    go_wp2
    go_ret
    exact ⟨rfl, by (show Grew _ _; repeat (first | exact Grew.refl _ | refine Grew.alloc ?_ _ | refine Grew.drew ?_ | refine Grew.more ?_ _))⟩
end Go.Proofs.Ytcokhgomibimcaa
