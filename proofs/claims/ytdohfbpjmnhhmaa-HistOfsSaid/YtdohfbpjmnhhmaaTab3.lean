/- Layers 4 and 5: what is more than is asked of rows and tables. Condition: tables that lie in memory that is there. -/
import Derived.Test.YtdohfbpjmnhhmaaTab2
import Derived.Test.YtdohfbpjmnhhmaaRowMuch
namespace Go.Proofs.Ytdohfbpjmnhhmaa
open Go.RowKit
attribute [local go_sem] more_cell more_frozen more_more more_setCell more_of_drew more_of_drewN lt_more le_more past_cell past_cell2 past_frozen past_frozen2 past_setCell past_setCell2 mid_cell mid_frozen mid_setCell
attribute [local go_sem ↓] Go.wp_at_zero Go.wp_at_succ

def goodTb (t : Tb) : Prop := t.name.size ≤ 100 ∧ (∀ c ∈ t.cols, c.name.size ≤ 100) ∧ goodRws t.rows
def szT (l : List Tb) : Nat := (l.map fun t => t.cols.length + t.rows.length).sum
theorem szT_take {l : List Tb} {k : Nat} (h : k < l.length) : szT (l.take (k + 1)) = szT (l.take k) + (l[k].cols.length + l[k].rows.length) := by
  unfold szT
  rw [List.take_succ_eq_append_getElem h, List.map_append, List.sum_append]
  simp
def goodTbs (l : List Tb) : Prop := l.length ≤ 18 ∧ szT l ≤ 400 ∧ ∀ t ∈ l, goodTb t
def In5At (l : List Cl) (i : Value) : Prop := ∃ k : Nat, k ≤ l.length ∧ i = .int .i64 k ∧ ∀ c ∈ l.take k, c.name.size ≤ 100
def Much5At (w : World) (l : List Tb) (n i : Value) (wr : World) : Prop :=
  ∃ j m : Nat, j ≤ l.length ∧ i = .int .i64 j ∧ n = .int .i64 m ∧ m = szT (l.take j) ∧ m ≤ 400 ∧ Grew w wr ∧ ∀ t ∈ l.take j, goodTb t
set_option maxHeartbeats 1000000 in
set_option maxRecDepth 100000 in
theorem much5_any (l : List Tb) (hl : TbsOk l) (A : Option Addr) (k0 : Nat) (w : World) (h : TbsR (PRow w) A l) :
    Calls Try.prog 6 #[.slice A l.length k0] w (MuchR w (goodTbs l)) := by
  have HC := Lib.hid h
  have HO := Lib.hid hl
  have hlen := hl.1
  clear h hl
  go_enter Try.func6, Try.ntmps6
  go_wp2
  go_loopw [3, 4] (fun n i wr => Much5At w l n i wr) (fun _ i _ => l.length - (intOf i).toNat)
  case atStart => exact ⟨0, 0, Nat.zero_le _, rfl, rfl, by simp [szT], by decide, by (show Grew _ _; repeat (first | exact Grew.refl _ | refine Grew.alloc ?_ _ | refine Grew.drew ?_ | refine Grew.more ?_ _)), by simp⟩
  case round =>
    obtain ⟨j, m0, hj, rfl, rfl, hm0, hm2, hg, ha⟩ := hrel
    have HG := Lib.hid hg
    have HA := Lib.hid ha
    have HM := Lib.hid hm0
    clear hg ha hm0
    by_cases h : j < l.length
    · by_cases h20 : j < 20
      · have h20' : (j : Int) < 20 := by omega
        obtain ⟨b, o, C, k2, B, k3, rfl, hk, hk3, hcl, hrw, ⟨hb, a0, a1, a2⟩⟩ := tbsR_at (HC.out.grew HG.out) h
        obtain ⟨ok1, ok2, ok3⟩ := HO.out.2 _ (List.getElem_mem h)
        have HCL := Lib.hid hcl
        have HN := Lib.hid (fun hx => take_all (P := goodTb) HA.out h hx)
        have HS := Lib.hid (szT_take h)
        have b1 := ok2.1
        have b2 := ok3.1
        have HRW : Hid (∀ W, Grew wr W → Calls Try.prog 22 #[.slice B l[j].rows.length k3] W (MuchR W (goodRws l[j].rows))) := Lib.hid fun W hW => much4_any _ ok3 B k3 W (hrw.grew hW)
        have HOC := Lib.hid ok2.2
        clear hcl hrw HA ok2 ok3 hk hk3
        generalize l[j] = t at *
        obtain ⟨name, cols, rows⟩ := t
        simp only at *
        go_upto_region 5 with fail
        refine wp_region_more (by kernel_rfl) (by kernel_rfl) ?_
        repeat (go_big_quiet_step ((fail)))
        refine wpQuiet_nil ?_
        rintro _ ⟨z, rfl⟩
        obtain ⟨W2, hW2⟩ : ∃ W2 : World, W2 = more wr z := ⟨_, rfl⟩
        have HG2 : Hid (Grew w W2) := Lib.hid (by rw [hW2]; exact HG.out.more z)
        have HG3 : Hid (Grew wr W2) := Lib.hid ⟨z, hW2⟩
        have e0 : W2.cell? ⟨b, o + j * 3, none⟩ = some (.string name) := by rw [hW2, more_cell _ _ _ hb]; exact a0
        have e1 : W2.cell? ⟨b, o + j * 3 + 1, none⟩ = some (.slice C cols.length k2) := by rw [hW2, more_cell _ _ _ hb]; exact a1
        have e2 : W2.cell? ⟨b, o + j * 3 + 2, none⟩ = some (.slice B rows.length k3) := by rw [hW2, more_cell _ _ _ hb]; exact a2
        have hb2 : b < W2.heap.size := Nat.lt_of_lt_of_le hb HG3.out.size
        rw [← hW2]
        clear hW2 a0 a1 a2 hb
        have hs1 : m0 + cols.length + rows.length ≤ 1000000000000000 := by omega
        go_wp2_with fail
        refine (HRW.out _ HG3.out).mono ?_
        rintro e W3 ⟨t, rfl, hg3, ht⟩
        have f0 : W3.cell? ⟨b, o + j * 3, none⟩ = some (.string name) := by rw [hg3.cell hb2]; exact e0
        have f1 : W3.cell? ⟨b, o + j * 3 + 1, none⟩ = some (.slice C cols.length k2) := by rw [hg3.cell hb2]; exact e1
        have hb3 : b < W3.heap.size := Nat.lt_of_lt_of_le hb2 hg3.size
        have HG4 : Hid (Grew w W3) := Lib.hid (HG2.out.trans hg3)
        have HG5 : Hid (Grew wr W3) := Lib.hid (HG3.out.trans hg3)
        have HT := Lib.hid ht
        clear ht hg3 e0 e1 e2 hb2 HG2 HG3 HRW
        cases t
        · have HT := Lib.hid (HT.out rfl)
          by_cases h4 : 400 < m0 + cols.length + rows.length
          · have h4' : (400 : Int) < (m0 : Int) + cols.length + rows.length := by omega
            go_wp2
            go_ret
            exact muchR_true _ HG4.out
          · have h4' : (m0 : Int) + cols.length + rows.length ≤ 400 := by omega
            by_cases h5 : 100 < name.size
            · have h5' : (100 : Int) < name.size := by omega
              go_wp2
              go_ret
              exact muchR_true _ HG4.out
            · have h5' : (name.size : Int) ≤ 100 := by omega
              go_wp2
              go_loop [5] (fun i => In5At cols i) (fun i => cols.length - (intOf i).toNat)
              case atStart => exact ⟨0, Nat.zero_le _, rfl, by simp⟩
              case round =>
                obtain ⟨q, hq, rfl, hx⟩ := hrel
                have HX := Lib.hid hx
                clear hx
                by_cases hqr : q < cols.length
                · obtain ⟨b', o', rfl, hb', c0, _⟩ := clsR_at (HCL.out.grew HG5.out) hqr
                  have HN2 := Lib.hid (fun hx => take_all (P := fun c : Cl => c.name.size ≤ 100) HX.out hqr hx)
                  generalize cols[q] = v at *
                  by_cases h6 : 100 < v.name.size
                  · have h6' : (100 : Int) < v.name.size := by omega
                    go_wp2
                    go_ret
                    exact muchR_true _ HG4.out
                  · have h6' : (v.name.size : Int) ≤ 100 := by omega
                    go_wp2
                    exact ⟨⟨q + 1, by omega, by go_num, HN2.out (by omega)⟩, by simp only [intOf]; omega⟩
                · obtain rfl : q = cols.length := by omega
                  have HX2 : Hid (∀ c ∈ cols, c.name.size ≤ 100) := Lib.hid (by have := HX.out; rwa [List.take_length] at this)
                  go_wp2
                  exact ⟨⟨j + 1, m0 + cols.length + rows.length, by omega, by go_num, by go_num, by rw [HS.out, HM.out]; omega, by omega, HG4.out, HN.out ⟨by simp only; omega, HX2.out, HT.out trivial⟩⟩, by simp only [intOf]; omega⟩
        · go_wp2
          go_ret
          exact muchR_true _ HG4.out
      · have h20' : (20 : Int) ≤ j := by omega
        have h50 : (18 : Int) < l.length := by omega
        go_wp2
        go_ret
        exact muchR_true _ HG.out
    · obtain rfl : j = l.length := by omega
      have HA2 : Hid (szT l ≤ 400 ∧ ∀ t ∈ l, goodTb t) := Lib.hid (by
        have h1 := HA.out
        have h2 := HM.out
        rw [List.take_length] at h1 h2
        exact ⟨by omega, h1⟩)
      go_wp2
      go_ret
      exact muchR_dec (c := (18 : Int) < l.length) HG.out (fun hc => ⟨by omega, HA2.out⟩)
end Go.Proofs.Ytdohfbpjmnhhmaa
