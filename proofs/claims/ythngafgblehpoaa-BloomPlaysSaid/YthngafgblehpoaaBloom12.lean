/- Layer 18: the document's own filters: asked. No condition. -/
import Derived.Test.YthngafgblehpoaaBloom11
namespace Go.Proofs.Ythngafgblehpoaa
open Go.RowKit
attribute [local go_sem] more_cell more_frozen more_more more_setCell more_of_drew more_of_drewN lt_more le_more past_cell past_cell2 past_frozen past_frozen2 past_setCell past_setCell2 mid_cell mid_frozen mid_setCell
attribute [local go_sem ↓] Go.wp_at_zero Go.wp_at_succ

def RHasAt (w : World) (T : TypeId) (x h k : Nat) (cs : Array Value) (A : Option Addr) (n : Nat) (i : Value) (wr : World) : Prop :=
  ∃ j : Nat, j ≤ k ∧ i = .int .i64 j ∧ Blok wr w.heap.size T cs ∧ Grew w wr ∧ Row wr A (numsL k (B18.placeN n h)) ∧ B18.hasJ x h j
set_option maxHeartbeats 2000000 in
set_option maxRecDepth 100000 in
theorem rhas_b (ws : List Nat) (k h g c m : Nat) (hm : 64 * ws.length = m) (h0 : 0 < ws.length) (hl : ws.length ≤ 10000) (hk : k ≤ 5) (hh : h < 18446744073709551616) (t : Bool) (ht : hasN ws k h = t) (w : World) (hr : BRow w (some ⟨g, 0, none⟩) (B18.bitL ws)) :
    Gives Try.prog 49 #[.agg #[.slice (some ⟨g, 0, none⟩) m c, .int .i64 k], .int .u64 h] w (.bool t) := by
  unfold Gives
  have HR := Lib.hid hr
  have HP : Hid (∀ W, Calls Try.prog 97 #[.agg #[.slice (some ⟨g, 0, none⟩) m c, .int .i64 k], .int .u64 h] W (PlF W k (B18.placeN ws.length h))) := Lib.hid fun W => places_any ws.length h k _ m c hm h0 hl hk hh W
  have HPl : Hid (∀ j, B18.placeN ws.length h j < m) := Lib.hid fun j => by rw [← hm]; exact B18.place_lt ws h j h0
  obtain ⟨x, hx⟩ : ∃ x, ws.getD (buckN h ws.length) 0 = x := ⟨_, rfl⟩
  have HBit : Hid (∀ j, (B18.bitL ws)[B18.placeN ws.length h j]? = some (x.testBit ((h / 64 ^ j) % 64))) := Lib.hid fun j => by rw [B18.place_bit ws h j h0, hx]
  have HNo : Hid (∀ j, j < k → x.testBit ((h / 64 ^ j) % 64) = false → t = false) := Lib.hid fun j hj hb => by rw [← ht]; exact B18.has_no hj (by rw [hx]; exact hb)
  have HYes : Hid (B18.hasJ x h k → t = true) := Lib.hid fun hj => by rw [← ht]; exact B18.has_yes (by rw [hx]; exact hj)
  have hml : m ≤ 640000 := by omega
  clear hr hm ht hx
  go_enter Try.func49, Try.ntmps49
  go_wp2_with fail
  refine (HP.out _).mono ?_
  rintro e w3 ⟨A3, c3, rfl, hg3, hr3, hf3⟩
  have HB0 := Lib.hid ((Blok.new w 69 #[.slice (some ⟨g, 0, none⟩) m c, .int .i64 k] _ rfl).grew hg3)
  have HG3 := Lib.hid (((Grew.refl w).alloc (.cells #[.slice (some ⟨g, 0, none⟩) m c, .int .i64 k] 69)).trans hg3)
  have HR3 := Lib.hid hr3
  clear hg3 hr3 hf3 HP
  go_wp2
  go_loopw [6] (fun i wr => RHasAt w 69 x h k #[.slice (some ⟨g, 0, none⟩) m c, .int .i64 k] A3 ws.length i wr) (fun i _ => k - (intOf i).toNat)
  case atStart => exact ⟨0, Nat.zero_le _, rfl, HB0.out, HG3.out, HR3.out, B18.hasJ_zero x h⟩
  case round =>
    clear HB0 HG3 HR3
    obtain ⟨j, hj, rfl, hb, hg, hr, hhj⟩ := hrel
    have HB := Lib.hid hb
    have HG := Lib.hid hg
    have HRr := Lib.hid hr
    have HJ := Lib.hid hhj
    have d0 := hb.cell 0
    have hlt := hb.lt
    simp at d0
    clear hb hg hr hhj
    by_cases hjk : j < k
    · obtain ⟨pb, po, rfl, hpb, p0⟩ := HRr.out.nums hjk
      have hpm := HPl.out j
      obtain ⟨hgl, q0⟩ := brow_cell (HR.out.grew HG.out) (HBit.out j)
      rw [Nat.zero_add] at q0
      have HN := Lib.hid (HNo.out j hjk)
      have HS : Hid (x.testBit ((h / 64 ^ j) % 64) = true → B18.hasJ x h (j + 1)) := Lib.hid fun hb => (B18.hasJ_succ x h j).2 ⟨HJ.out, hb⟩
      clear HNo HBit HPl HJ
      generalize x.testBit ((h / 64 ^ j) % 64) = tb at *
      obtain ⟨p, hp⟩ : ∃ p, B18.placeN ws.length h j = p := ⟨_, rfl⟩
      rw [hp] at hpm q0 p0
      clear hp
      cases tb
      · obtain rfl := HN.out rfl
        go_wp2
        refine wp_region_more (by kernel_rfl) (by kernel_rfl) ?_
        repeat (go_big_quiet_step ((fail)))
        refine wpQuiet_nil ?_
        rintro _ ⟨z, rfl⟩
        go_wp2
        go_ret
        exact ⟨rfl, HG.out.more _⟩
      · go_wp2
        refine wp_region_more (by kernel_rfl) (by kernel_rfl) ?_
        repeat (go_big_quiet_step ((fail)))
        refine wpQuiet_nil ?_
        rintro _ ⟨z, rfl⟩
        go_wp2
        exact ⟨⟨j + 1, by omega, by go_num, HB.out.more _, HG.out.more _, HRr.out.more _, HS.out (by first | rfl | trivial)⟩, by simp only [intOf]; omega⟩
    · obtain rfl : j = k := by omega
      have htt := HYes.out HJ.out
      subst htt
      go_wp2
      go_ret
      exact ⟨rfl, HG.out⟩
end Go.Proofs.Ythngafgblehpoaa
