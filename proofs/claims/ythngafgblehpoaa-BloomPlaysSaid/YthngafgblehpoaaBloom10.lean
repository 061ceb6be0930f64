/- Layer 18: the document's own filters: made, put, asked. No condition. -/
import Derived.Test.YthngafgblehpoaaBloom9
import Derived.Test.YthngafgblehpoaaApp2
namespace Go.Proofs.Ythngafgblehpoaa
open Go.RowKit
attribute [local go_sem] more_cell more_frozen more_more more_setCell more_of_drew more_of_drewN lt_more le_more past_cell past_cell2 past_frozen past_frozen2 past_setCell past_setCell2 mid_cell mid_frozen mid_setCell
attribute [local go_sem ↓] Go.wp_at_zero Go.wp_at_succ

theorem infoInt18 : (Try.prog.info? 3).map (fun i => (i.zero, i.size, i.bytes)) = some (some (.int .i64 0), 1, 8) := by kernel_rfl
theorem rbucket_nat (h n b : Nat) (hh : h < 18446744073709551616) (h0 : 0 < n) (hb : buckN h n = b) (w : World) : Calls Try.prog 136 #[.int .u64 h, .int .i64 n] w fun e w' => e = .returned (.int .i64 b) ∧ w' = w := by
  have e : bucketI (h : Int) (n : Int) = (b : Int) := by
    unfold bucketI
    rw [if_neg (by omega), ← hb]
    unfold buckN
    simp
  rw [← e]
  exact rbucket_any h n (by unfold uI; omega) w
/-- Places of a number's bits are handed back. -/
def PlF (w : World) (k : Nat) (f : Nat → Nat) (e : Ending) (w' : World) : Prop := ∃ A c, e = .returned (.slice A k c) ∧ Grew w w' ∧ Row w' A (numsL k f) ∧ ∀ p, A = some p → w.heap.size ≤ p.block
def PlAt (w : World) (n h k : Nat) (T : TypeId) (cs : Array Value) (hv v i : Value) (wr : World) : Prop :=
  ∃ (j : Nat) (A : Option Addr) (c : Nat), j ≤ k ∧ i = .int .i64 j ∧ v = .slice A j c ∧ hv = .int .u64 ((h / 64 ^ j : Nat) : Int) ∧ wr.ownsRow (w.heap.size + 1) 3 1 (.slice A j c) j (numsL j (B18.placeN n h)) ∧ Grew w wr ∧ Blok wr w.heap.size T cs
set_option maxHeartbeats 1000000 in
theorem places_any (n h k : Nat) (A : Option Addr) (m c : Nat) (hm : 64 * n = m) (h0 : 0 < n) (hn : n ≤ 10000) (hk : k ≤ 5) (hh : h < 18446744073709551616) (w : World) :
    Calls Try.prog 97 #[.agg #[.slice A m c, .int .i64 k], .int .u64 h] w (PlF w k (B18.placeN n h)) := by
  obtain ⟨b, hb⟩ : ∃ b, buckN h n = b := ⟨_, rfl⟩
  have hbn : b < n := by rw [← hb]; exact Nat.mod_lt _ h0
  have HBu : Hid (∀ W, Calls Try.prog 136 #[.int .u64 h, .int .i64 n] W fun e w' => e = .returned (.int .i64 b) ∧ w' = W) := Lib.hid fun W => rbucket_nat h n b hh h0 hb W
  have HP : Hid (∀ j, B18.placeN n h j = 64 * b + (h / 64 ^ j) % 64) := Lib.hid fun j => by unfold B18.placeN; rw [hb]
  have hq : (m : Int) / 64 = (n : Int) := by omega
  have hq2 : (m : Int).tdiv 64 = (n : Int) := by rw [Int.tdiv_eq_ediv_of_nonneg (by omega)]; exact hq
  clear hb
  go_enter Try.func97, Try.ntmps97
  go_wp2_with fail
  refine (HBu.out _).mono ?_
  rintro e w' ⟨rfl, hw⟩
  have hw := hw.symm
  subst hw
  clear hq hq2 HBu
  go_wp2
  go_loopw [1, 5, 7] (fun hv v i wr => PlAt w n h k 69 #[.slice A m c, .int .i64 k] hv v i wr) (fun _ _ i _ => k - (intOf i).toNat)
  case atStart => exact ⟨0, none, 0, Nat.zero_le _, rfl, rfl, by rw [Nat.pow_zero, Nat.div_one], own_none _ _ _ _, by (show Grew _ _; repeat (first | exact Grew.refl _ | refine Grew.alloc ?_ _ | refine Grew.drew ?_ | refine Grew.more ?_ _)), Blok.new _ _ _ _ rfl⟩
  case round =>
    obtain ⟨j, A1, c1, hj, rfl, rfl, rfl, ho, hg, hb⟩ := hrel
    have HO := Lib.hid ho
    have HG := Lib.hid hg
    have HB := Lib.hid hb
    have d1 := hb.cell 1
    have hlt := hb.lt
    simp at d1
    have hsz : w.heap.size + 1 ≤ wr.heap.size := by omega
    clear ho hg hb
    by_cases hjk : j < k
    · have HPj := Lib.hid (HP.out j)
      have hdd : h / 64 ^ (j + 1) = (h / 64 ^ j) / 64 := by rw [Nat.pow_succ, Nat.div_div_eq_div_mul]
      have hq : h / 64 ^ j < 18446744073709551616 := Nat.lt_of_le_of_lt (Nat.div_le_self _ _) hh
      obtain ⟨q, hqq⟩ : ∃ q, h / 64 ^ j = q := ⟨_, rfl⟩
      rw [hqq] at hdd hq HPj
      have HQ := Lib.hid hqq
      have HD := Lib.hid hdd
      have e1 : (q : Int) % 64 = ((q % 64 : Nat) : Int) := by omega
      have e2 : (q : Int).tmod 64 = ((q % 64 : Nat) : Int) := by rw [Int.tmod_eq_emod_of_nonneg (by omega)]; exact e1
      have e3 : (q : Int) / 64 = ((q / 64 : Nat) : Int) := by omega
      have e4 : (q : Int).tdiv 64 = ((q / 64 : Nat) : Int) := by rw [Int.tdiv_eq_ediv_of_nonneg (by omega)]; exact e3
      have hs64 : q % 64 < 64 := Nat.mod_lt _ (by decide)
      rw [hqq]
      clear hqq hdd HP
      generalize q % 64 = s at *
      generalize hq64 : q / 64 = q64 at *
      have HQ64 := Lib.hid hq64
      clear hq64
      have ew : IntKind.i64.wrap (s : Int) = (s : Int) := IntWalk.i64_in _ (by omega)
      have hrow := own_base HO.out
      have ev : ((64 * b + s : Nat) : Int) = 64 * (b : Int) + (s : Int) := by omega
      go_wp2_with (at_builtin; refine wpList_appB rfl (.tmp 20) (.tmp 27) 26 3 1 rfl (w.heap.size + 1) (.int .i64 0) 8 Try.underlying26 infoInt18 rfl (by decide) (by decide) _ j (numsL j (B18.placeN n h)) rfl (own_alloc HO.out _) _ 1 1 [.int .i64 (64 * (b : Int) + (s : Int))] rfl rfl (row_one _ _ _ _ rfl) (by simp; rfl) (by omega) (by simp; omega) ?_)
      intro A2 c2 w2 ho2 hgb2
      have HO2 : Hid (w2.ownsRow (w.heap.size + 1) 3 1 (.slice A2 (j + 1) c2) (j + 1) (numsL (j + 1) (B18.placeN n h))) := Lib.hid (by
        rw [← numsL_snoc, HPj.out, ev]
        exact ho2)
      have HB2 := Lib.hid ((HB.out.alloc _).grown hgb2 (fun e => by have := hrow _ e; omega))
      have HG2 := Lib.hid ((HG.out.alloc _).grown hgb2 (fun i hi => by have := hrow i hi; omega))
      clear ho2 hgb2 HO HB HG
      go_wp2
      exact ⟨⟨j + 1, A2, c2, by omega, by go_num, rfl, by rw [HD.out], HO2.out, HG2.out, HB2.out⟩, by simp only [intOf]; omega⟩
    · obtain rfl : j = k := by omega
      go_wp2
      go_ret
      obtain ⟨A', c', h1, h2⟩ := own_row HO.out
      injection h1 with h1 _ h3
      subst h1
      exact ⟨_, _, rfl, HG.out, h2, fun p hp => by have := own_base HO.out p.block (by rw [hp]; rfl); omega⟩
end Go.Proofs.Ythngafgblehpoaa
