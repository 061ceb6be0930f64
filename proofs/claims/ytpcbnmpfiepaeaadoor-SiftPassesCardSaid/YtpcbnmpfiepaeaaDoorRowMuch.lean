/- Layer 4: what is more than is asked of rows. Condition: rows that lie in memory that is there. -/
import Derived.Test.YtpcbnmpfiepaeaaDoorTabKit
import Derived.Test.YtpcbnmpfiepaeaaDoorMuchR
namespace Go.Proofs.YtpcbnmpfiepaeaaDoor
open Go.RowKit
attribute [local go_sem] more_cell more_frozen more_more more_setCell more_of_drew more_of_drewN lt_more le_more past_cell past_cell2 past_frozen past_frozen2 past_setCell past_setCell2 mid_cell mid_frozen mid_setCell
attribute [local go_sem ↓] Go.wp_at_zero Go.wp_at_succ

def szR (r : List Vl) : Nat := (r.map fun v => 1 + v.s.size).sum
def szRs (l : List (List Vl)) : Nat := (l.map szR).sum
theorem szR_take {r : List Vl} {k : Nat} (h : k < r.length) : szR (r.take (k + 1)) = szR (r.take k) + (1 + r[k].s.size) := by
  unfold szR
  rw [List.take_succ_eq_append_getElem h, List.map_append, List.sum_append]
  simp
theorem szRs_take {r : List (List Vl)} {k : Nat} (h : k < r.length) : szRs (r.take (k + 1)) = szRs (r.take k) + szR r[k] := by
  unfold szRs
  rw [List.take_succ_eq_append_getElem h, List.map_append, List.sum_append]
  simp
theorem szR_leB {r : List Vl} {B : Nat} (h : ∀ v ∈ r, v.s.size ≤ B) : ∀ k, szR (r.take k) ≤ k * (B + 1)
  | 0 => by simp [szR]
  | k + 1 => by
    have h1 := szR_leB h k
    rw [Nat.add_mul, Nat.one_mul]
    rcases Nat.lt_or_ge k r.length with hk | hk
    · have h2 := h _ (List.getElem_mem hk)
      rw [szR_take hk]
      omega
    · rw [List.take_of_length_le (by omega)] at h1 ⊢
      omega
theorem szR_le {r : List Vl} (h : ∀ v ∈ r, VlOk v) (k : Nat) : szR (r.take k) ≤ k * 140737488355329 := szR_leB (fun v hv => (h v hv).2.2) k
def goodRws (l : List (List Vl)) : Prop := l.length ≤ 50 ∧ (∀ r ∈ l, r.length ≤ 40) ∧ szRs l ≤ 2000
def In4At (r : List Vl) (m0 : Nat) (n i : Value) : Prop := ∃ k m : Nat, k ≤ r.length ∧ i = .int .i64 k ∧ n = .int .i64 m ∧ m = m0 + szR (r.take k)
def Much4At (w : World) (l : List (List Vl)) (n i : Value) (wr : World) : Prop :=
  ∃ j m : Nat, j ≤ l.length ∧ i = .int .i64 j ∧ n = .int .i64 m ∧ m = szRs (l.take j) ∧ m ≤ 2000 ∧ Grew w wr ∧ ∀ r ∈ l.take j, r.length ≤ 40
set_option maxHeartbeats 1000000 in
theorem much4_any (l : List (List Vl)) (hl : RwsOk l) (A : Option Addr) (k0 : Nat) (w : World) (h : RwsR (PRow w) A l) :
    Calls Tryd.prog 16 #[.slice A l.length k0] w (MuchR w (goodRws l)) := by
  have HC := Lib.hid h
  have HO := Lib.hid hl
  have hlen := hl.1
  clear h hl
  go_enter Tryd.func16, Tryd.ntmps16
  go_wp2
  go_loopw [3, 4] (fun n i wr => Much4At w l n i wr) (fun _ i _ => l.length - (intOf i).toNat)
  case atStart => exact ⟨0, 0, Nat.zero_le _, rfl, rfl, by simp [szRs], by decide, by (show Grew _ _; repeat (first | exact Grew.refl _ | refine Grew.alloc ?_ _ | refine Grew.drew ?_ | refine Grew.more ?_ _)), by simp⟩
  case round =>
    obtain ⟨j, m0, hj, rfl, rfl, hm0, hm2, hg, ha⟩ := hrel
    have HG := Lib.hid hg
    have HA := Lib.hid ha
    have HM := Lib.hid hm0
    clear hg ha hm0
    by_cases h : j < l.length
    · by_cases h60 : j < 60
      · have h60' : (j : Int) < 60 := by omega
        obtain ⟨b, o, B, k2, rfl, hb, hc, hk, hv⟩ := rwsR_at (HC.out.grew HG.out) h
        have HV := Lib.hid hv
        have HS := Lib.hid (szRs_take h)
        have HN := Lib.hid (fun hx => take_all (P := fun r : List Vl => r.length ≤ 40) HA.out h hx)
        have HQ := Lib.hid (HO.out.2 _ (List.getElem_mem h)).2
        clear hv HA
        generalize l[j] = r at *
        by_cases hn : 40 < r.length
        · have hn' : (40 : Int) < r.length := by omega
          go_wp2
          go_ret
          exact muchR_true _ HG.out
        · have hn' : ¬ (40 : Int) < r.length := by omega
          have hn2 : (r.length : Int) ≤ 40 := by omega
          obtain ⟨wo, rfl⟩ : ∃ wo : World, wo = wr := ⟨_, rfl⟩
          go_wp2
          go_loop [3, 5] (fun n i => In4At r m0 n i) (fun _ i => r.length - (intOf i).toNat)
          case atStart => exact ⟨0, m0, Nat.zero_le _, rfl, rfl, by simp [szR]⟩
          case round =>
            obtain ⟨q, m, hq, rfl, rfl, hm⟩ := hrel
            have hle : m ≤ 10000000000000000 := by
              have := szR_le HQ.out q
              have h3 : q * 140737488355329 ≤ 40 * 140737488355329 := Nat.mul_le_mul_right _ (by omega)
              omega
            have HM2 := Lib.hid hm
            clear hm
            by_cases hqr : q < r.length
            · obtain ⟨b', o', rfl, hb', _, _, c2⟩ := vlsR_at HV.out hqr
              have hsz := (HQ.out _ (List.getElem_mem hqr)).2.2
              have HT := Lib.hid (szR_take hqr)
              generalize r[q] = v at *
              go_wp2
              exact ⟨⟨q + 1, m + 1 + v.s.size, by omega, by go_num, by go_num, by rw [HT.out, HM2.out]; omega⟩, by simp only [intOf]; omega⟩
            · obtain rfl : q = r.length := by omega
              have HM3 : Hid (m = m0 + szR r) := Lib.hid (by have := HM2.out; rwa [List.take_length] at this)
              by_cases h2k : 2000 < m
              · have h2k' : (2000 : Int) < m := by omega
                go_wp2
                go_ret
                exact muchR_true _ HG.out
              · have h2k' : (m : Int) ≤ 2000 := by omega
                go_wp2
                exact ⟨⟨j + 1, m, by omega, by go_num, rfl, by rw [HS.out, HM3.out, HM.out], by omega, HG.out, HN.out (by omega)⟩, by simp only [intOf]; omega⟩
      · have h60' : (60 : Int) ≤ j := by omega
        have h50 : (50 : Int) < l.length := by omega
        go_wp2
        go_ret
        exact muchR_true _ HG.out
    · obtain rfl : j = l.length := by omega
      have HA2 : Hid ((∀ r ∈ l, r.length ≤ 40) ∧ szRs l ≤ 2000) := Lib.hid (by
        have h1 := HA.out
        have h2 := HM.out
        rw [List.take_length] at h1 h2
        exact ⟨h1, by omega⟩)
      go_wp2
      go_ret
      exact muchR_dec (c := (50 : Int) < l.length) HG.out (fun hc => ⟨by omega, HA2.out⟩)
end Go.Proofs.YtpcbnmpfiepaeaaDoor
