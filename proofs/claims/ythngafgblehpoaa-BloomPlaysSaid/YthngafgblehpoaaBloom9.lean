/- Layer 18: how many bits of a filter are one; the document's own word. No condition. -/
import Derived.Test.YthngafgblehpoaaBloom8
namespace Go.Proofs.Ythngafgblehpoaa
open Go.RowKit
attribute [local go_sem] more_cell more_frozen more_more more_setCell more_of_drew more_of_drewN lt_more le_more past_cell past_cell2 past_frozen past_frozen2 past_setCell past_setCell2 mid_cell mid_frozen mid_setCell
attribute [local go_sem ↓] Go.wp_at_zero Go.wp_at_succ

theorem onesN_le (n x : Nat) : B18.onesN n x ≤ n := by
  induction n generalizing x with
  | zero => exact Nat.le_refl _
  | succ n ih => show x % 2 + _ ≤ _; have := ih (x / 2); omega
theorem onesW_succ (ws : List Nat) (j : Nat) : B18.onesW ws (j + 1) = B18.onesW ws j + B18.onesN 64 (ws.getD j 0) := rfl
theorem onesW_zero (ws : List Nat) : B18.onesW ws 0 = 0 := rfl
theorem onesW_le (ws : List Nat) (j : Nat) : B18.onesW ws j ≤ 64 * j := by
  induction j with
  | zero => exact Nat.le_refl _
  | succ j ih => show B18.onesW ws j + B18.onesN 64 _ ≤ _; have := onesN_le 64 (ws.getD j 0); omega
attribute [local irreducible] B18.onesN B18.onesW
def OnesAt (u : World) (ws : List Nat) (T : TypeId) (cs : Array Value) (v i : Value) (wr : World) : Prop := ∃ j : Nat, j ≤ ws.length ∧ i = .int .i64 j ∧ v = .int .i64 ((B18.onesW ws j : Nat) : Int) ∧ Grew u wr ∧ Blok wr u.heap.size T cs
set_option maxHeartbeats 1000000 in
theorem ones_any (ws : List Nat) (k : Int) (n g c : Nat) (hn : ws.length = n) (hl : n ≤ 1000000) (hw : wordsOk ws) (w : World) (hr : URow w (some ⟨g, 0, none⟩) ws) :
    Gives Try.prog 47 #[.agg #[.slice (some ⟨g, 0, none⟩) n c, .int .i64 k]] w (.int .i64 (B18.onesW ws n : Nat)) := by
  unfold Gives
  subst hn
  have HR := Lib.hid hr
  have HW := Lib.hid hw
  have HLe := Lib.hid (onesW_le ws)
  obtain ⟨fin, hfin⟩ : ∃ fin, B18.onesW ws ws.length = fin := ⟨_, rfl⟩
  have HF := Lib.hid hfin
  rw [hfin]
  clear hr hw hfin
  go_enter Try.func47, Try.ntmps47
  go_wp2
  go_loopw [3, 9] (fun v i wr => OnesAt w ws 65 #[.slice (some ⟨g, 0, none⟩) ws.length c, .int .i64 k] v i wr) (fun _ i _ => ws.length - (intOf i).toNat)
  case atStart => exact ⟨0, Nat.zero_le _, rfl, by rw [onesW_zero]; rfl, by (show Grew _ _; repeat (first | exact Grew.refl _ | refine Grew.alloc ?_ _ | refine Grew.drew ?_ | refine Grew.more ?_ _)), Blok.new _ _ _ _ rfl⟩
  case round =>
    obtain ⟨j, hj, rfl, rfl, hg, hb⟩ := hrel
    have HG := Lib.hid hg
    have HB := Lib.hid hb
    clear hg hb
    by_cases h : j < ws.length
    · obtain ⟨hbl, c0⟩ := urow_cell (HR.out.grew HG.out) h rfl
      have hx := HW.out _ (List.getElem_mem h)
      have hgd : ws.getD j 0 = ws[j] := by rw [List.getD_eq_getElem?_getD, List.getElem?_eq_getElem h]; rfl
      have HN : Hid (B18.onesW ws (j + 1) = B18.onesW ws j + B18.onesN 64 ws[j]) := Lib.hid (by rw [onesW_succ, hgd])
      have h1 := HLe.out j
      have h2 := onesN_le 64 ws[j]
      have HC : Hid (∀ W, Calls Try.prog 98 #[.int .u64 ws[j]] W fun e w' => e = .returned (.int .i64 (B18.onesN 64 ws[j] : Nat)) ∧ w' = W) := Lib.hid fun W => ones64 ws[j] hx W
      rw [Nat.zero_add] at c0
      clear hgd hx
      generalize ws[j] = x at *
      generalize B18.onesN 64 x = d at *
      generalize B18.onesW ws j = s at *
      go_wp2_with (first | (go_at_call 98; (with_reducible refine (HC.out _).mono ?_); rintro e w2 ⟨rfl, hw⟩; have hw := hw.symm; subst hw))
      exact ⟨⟨j + 1, by omega, by go_num, by rw [HN.out]; go_num, HG.out, HB.out⟩, by simp only [intOf]; omega⟩
    · obtain rfl : j = ws.length := by omega
      rw [HF.out]
      go_wp2
      go_ret
      exact ⟨rfl, HG.out⟩
/-- The document's filter: its truths lie in memory. -/
def bV8 (l : List Bool) : List Value := l.map Value.bool
def BRow (w : World) (A : Option Addr) (l : List Bool) : Prop := Row w A (bV8 l)
theorem BRow.grew {w w' : World} {A : Option Addr} {l : List Bool} (h : BRow w A l) (g : Grew w w') : BRow w' A l := Row.grew h g
theorem bV8_len (l : List Bool) : (bV8 l).length = l.length := by simp [bV8]
theorem bV8_one (l : List Bool) : ∀ u ∈ bV8 l, u.oneCell' = true := by
  intro u hu
  obtain ⟨z, _, rfl⟩ := List.mem_map.1 hu
  rfl
theorem brow_cell {w : World} {b o i : Nat} {t : Bool} {l : List Bool} (h : BRow w (some ⟨b, o, none⟩) l) (hi : l[i]? = some t) : b < w.heap.size ∧ w.cell? ⟨b, o + i, none⟩ = some (.bool t) := by
  have hv : (bV8 l)[i]? = some (.bool t) := by unfold bV8; rw [List.getElem?_map, hi]; rfl
  rcases h with h | ⟨b', o', hA, hb, hc⟩
  · rw [h] at hv
    simp at hv
  · injection hA with hA
    injection hA with e1 e2 _
    subst e1 e2
    exact ⟨hb, hc i _ hv⟩
def WordAt (u : World) (v : Nat) (T : TypeId) (cs : Array Value) (x i : Value) (wr : World) : Prop := ∃ j : Nat, j ≤ 64 ∧ i = .int .i64 ((j : Int) - 1) ∧ x = .int .u64 ((v / 2 ^ j : Nat) : Int) ∧ Grew u wr ∧ Blok wr u.heap.size T cs
set_option maxHeartbeats 1000000 in
theorem rword_any (ws : List Nat) (k : Int) (m g c p : Nat) (hm : 64 * ws.length = m) (hl : ws.length ≤ 10000) (hp : p < ws.length) (hw : wordsOk ws) (w : World) (hr : BRow w (some ⟨g, 0, none⟩) (B18.bitL ws)) (v : Nat) (hv : ws.getD p 0 = v) :
    Gives Try.prog 46 #[.agg #[.slice (some ⟨g, 0, none⟩) m c, .int .i64 k], .int .i64 p] w (.int .u64 v) := by
  unfold Gives
  have HR := Lib.hid hr
  have hv64 : v < 18446744073709551616 := by rw [← hv]; exact getD_lt hw p
  have HV := Lib.hid hv
  have HM := Lib.hid hm
  have hp' : p < 10000 := by omega
  have hpm : 64 * p + 64 ≤ m := by omega
  have hv0 : v / 2 ^ 64 = 0 := Nat.div_eq_of_lt hv64
  have HV0 := Lib.hid hv0
  clear hr hv hm hw hv0
  go_enter Try.func46, Try.ntmps46
  go_wp2
  go_loopw [5, 6] (fun x i wr => WordAt w v 69 #[.slice (some ⟨g, 0, none⟩) m c, .int .i64 k] x i wr) (fun _ i _ => (intOf i + 1).toNat)
  case atStart => exact ⟨64, Nat.le_refl _, rfl, by rw [HV0.out]; rfl, by (show Grew _ _; repeat (first | exact Grew.refl _ | refine Grew.alloc ?_ _ | refine Grew.drew ?_ | refine Grew.more ?_ _)), Blok.new _ _ _ _ rfl⟩
  case round =>
    obtain ⟨j, hj, rfl, rfl, hg, hb⟩ := hrel
    have HG := Lib.hid hg
    have HB := Lib.hid hb
    have c0 := hb.cell 0
    have hlt := hb.lt
    simp at c0
    clear hg hb HV0
    rcases j with _ | j
    · rw [Nat.pow_zero, Nat.div_one]
      go_wp2
      go_ret
      exact ⟨rfl, HG.out⟩
    · have hjj : (((j + 1 : Nat) : Int) - 1) = (j : Int) := by omega
      rw [hjj]
      obtain ⟨t, ht⟩ : ∃ t, v.testBit j = t := ⟨_, rfl⟩
      have hbit : (B18.bitL ws)[64 * p + j]? = some t := by rw [B18.word_bit ws p j hp (by omega), HV.out, ht]
      obtain ⟨hgl, c1⟩ := brow_cell (HR.out.grew HG.out) hbit
      rw [Nat.zero_add] at c1
      have HS := Lib.hid (B18.word_step v j)
      rw [ht] at HS
      have hq : v / 2 ^ j < 18446744073709551616 := Nat.lt_of_le_of_lt (Nat.div_le_self _ _) hv64
      have hq1 : 2 * (v / 2 ^ (j + 1)) ≤ v / 2 ^ j := by have := HS.out; omega
      clear hbit ht
      have HQ : Hid (∃ q, v / 2 ^ j = q) := Lib.hid ⟨_, rfl⟩
      obtain ⟨q, hqq⟩ := HQ.out
      rw [hqq] at HS hq hq1
      have HQ := Lib.hid hqq
      clear hqq
      generalize v / 2 ^ (j + 1) = q1 at *
      have e1 : IntKind.u64.wrap (2 * (q1 : Int)) = ((2 * q1 : Nat) : Int) := by
        rw [wrap_u]
        omega
      cases t
      · have hs := HS.out
        have hs2 : 2 * q1 = q := by simpa using hs
        clear hs HS
        have e1' : IntKind.u64.wrap (2 * (q1 : Int)) = (q : Int) := by rw [e1, hs2]
        clear e1 hs2
        go_wp2
        exact ⟨⟨j, by omega, by go_num, by rw [HQ.out], HG.out, HB.out⟩, by simp only [intOf]; omega⟩
      · have hs := HS.out
        have hs2 : 2 * q1 + 1 = q := by simpa using hs
        have e2 : IntKind.u64.wrap (((2 * q1 : Nat) : Int) + 1) = (q : Int) := by
          rw [wrap_u]
          omega
        clear hs HS hs2
        generalize 2 * q1 = q2 at *
        go_wp2
        exact ⟨⟨j, by omega, by go_num, by rw [HQ.out], HG.out, HB.out⟩, by simp only [intOf]; omega⟩
end Go.Proofs.Ythngafgblehpoaa
