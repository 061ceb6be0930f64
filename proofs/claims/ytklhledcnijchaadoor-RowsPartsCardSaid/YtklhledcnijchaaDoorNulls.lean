/- rows.Nulls. No condition. -/
import Derived.Test.YtklhledcnijchaaDoorCopV
import Derived.Test.YtklhledcnijchaaDoorVal
namespace Go.Proofs.YtklhledcnijchaaDoor
open Go.RowKit
attribute [local go_sem] more_cell more_frozen more_more more_setCell more_of_drew more_of_drewN lt_more le_more past_cell past_cell2 past_frozen past_frozen2 past_setCell past_setCell2 mid_cell mid_frozen mid_setCell
attribute [local go_sem ↓] Go.wp_at_zero Go.wp_at_succ

def NuAt (w : World) (m : Nat) (g : Nat) (i : Value) (wr : World) : Prop :=
  ∃ j : Nat, j ≤ m ∧ i = .int .i64 j ∧ Below w.heap.size w wr ∧ Blok wr g 31 (flatV (List.replicate m nulV)).toArray
theorem rep_at {m j : Nat} (h : j < m) : ∀ c v, (vcL nulV)[c]? = some v → (flatV (List.replicate m nulV)).toArray[j * 3 + c]? = some v := by
  intro c v hc
  have e : flatV (List.replicate m nulV) = flatV (List.replicate j nulV) ++ (vcL nulV ++ flatV (List.replicate (m - j - 1) nulV)) := by
    have e1 : vcL nulV = flatV [nulV] := by simp [flatV]
    rw [e1, ← flatV_app, ← flatV_app]
    congr 1
    rw [show [nulV] = List.replicate 1 nulV from rfl, List.replicate_append_replicate, List.replicate_append_replicate]
    congr 1
    omega
  have hcl : c < 3 := by
    rcases Nat.lt_or_ge c 3 with h | h
    · exact h
    · rw [List.getElem?_eq_none (show (vcL nulV).length ≤ c from h)] at hc
      cases hc
  have hl : (flatV (List.replicate j nulV)).length = j * 3 := by rw [flatV_len, List.length_replicate]
  rw [List.getElem?_toArray, e, List.getElem?_append_right (by omega), hl, Nat.add_sub_cancel_left, List.getElem?_append_left (by show c < 3; exact hcl)]
  exact hc
theorem set_same {cs : Array Value} {i : Nat} {v : Value} (h : cs[i]? = some v) : cs.setIfInBounds i v = cs := by
  apply Array.ext_getElem?
  intro j
  rw [Array.getElem?_setIfInBounds]
  by_cases hj : i = j
  · subst hj
    have hl : i < cs.size := by
      rcases Nat.lt_or_ge i cs.size with h1 | h1
      · exact h1
      · rw [Array.getElem?_eq_none h1] at h; cases h
    rw [if_pos rfl, if_pos hl, h]
  · rw [if_neg hj]
set_option maxHeartbeats 1000000 in
set_option maxRecDepth 100000 in
theorem nulls_any (n : Int) (m : Nat) (m0 : Int) (h0 : max (0 : Int) n = m0) (hm : min (65536 : Int) m0 = (m : Int)) (w : World) :
    Calls Tryd.prog 22 #[.int .i64 n] w (ValsF w (List.replicate m nulV)) := by
  unfold ValsF
  rw [List.length_replicate]
  have hm1 : m ≤ 65536 := by omega
  go_enter Tryd.func22, Tryd.ntmps22
  go_wp2_with (at_make; refine wpList_make_rows _ rfl _ _ 22 rfl 31 (.agg #[.int .i64 0, .int .i64 0, .string ⟨#[]⟩]) #[.int .i64 0, .int .i64 0, .string ⟨#[]⟩] 3 32 Tryd.underlying22 infoV rfl _ _ m rfl rfl (by omega) (by omega) ?_; rw [made_flat'])
  clear h0 hm
  go_loopw [11] (fun i wr => NuAt w m w.heap.size i wr) (fun i _ => m - (intOf i).toNat)
  case atStart => exact ⟨0, Nat.zero_le _, rfl, (Below.refl _ w).alloc (Nat.le_refl _) _, Blok.new _ _ _ _ rfl⟩
  case round =>
    obtain ⟨j, hj, rfl, hb, hk⟩ := hrel
    have HB := Lib.hid hb
    have HK := Lib.hid hk
    clear hb hk
    by_cases h : j < m
    · have hji : (j : Int) < (m : Int) := by omega
      go_wp2_with fail
      (with_reducible refine (null_any _).grows.mono ?_)
      rintro e w2 ⟨rfl, hg2⟩
      have hk2 := HK.out.grew hg2
      have hb2 : Below w.heap.size w w2 := HB.out.trans ((Grew.below hg2).mono HB.out.size)
      have c0 := hk2.cell (j * 3)
      have c1 := hk2.cell (j * 3 + 1)
      have c2 := hk2.cell (j * 3 + 2)
      have a0 := rep_at h 0 (.int .i64 0) rfl
      have a1 := rep_at h 1 (.int .i64 0) rfl
      have a2 := rep_at h 2 (.string ⟨#[]⟩) rfl
      rw [Nat.add_zero] at a0
      rw [a0] at c0
      rw [a1] at c1
      rw [a2] at c2
      have d0 := hk2.thaw (j * 3)
      have d1 := hk2.thaw (j * 3 + 1)
      have d2 := hk2.thaw (j * 3 + 2)
      have HS : Hid (Blok (((w2.setCell ⟨w.heap.size, j * 3, none⟩ (.int .i64 0)).setCell ⟨w.heap.size, j * 3 + 1, none⟩ (.int .i64 0)).setCell ⟨w.heap.size, j * 3 + 2, none⟩ (.string ⟨#[]⟩)) w.heap.size 31 (flatV (List.replicate m nulV)).toArray) := Lib.hid (by
        have h3 := ((hk2.set (j * 3) (.int .i64 0)).set (j * 3 + 1) (.int .i64 0)).set (j * 3 + 2) (.string ⟨#[]⟩)
        rwa [set_same (i := j * 3) a0, set_same (i := j * 3 + 1) a1, set_same (i := j * 3 + 2) a2] at h3)
      have HBs : Hid (Below w.heap.size w (((w2.setCell ⟨w.heap.size, j * 3, none⟩ (.int .i64 0)).setCell ⟨w.heap.size, j * 3 + 1, none⟩ (.int .i64 0)).setCell ⟨w.heap.size, j * 3 + 2, none⟩ (.string ⟨#[]⟩))) := Lib.hid (((hb2.setCell (p := ⟨w.heap.size, j * 3, none⟩) (Nat.le_refl _) _).setCell (p := ⟨w.heap.size, j * 3 + 1, none⟩) (Nat.le_refl _) _).setCell (p := ⟨w.heap.size, j * 3 + 2, none⟩) (Nat.le_refl _) _)
      clear a0 a1 a2 hk2 hb2 hg2
      go_wp2
      exact ⟨⟨j + 1, by omega, by go_num, HBs.out, HS.out⟩, by simp only [intOf]; omega⟩
    · obtain rfl : j = m := by omega
      go_wp2
      go_ret
      exact ⟨some ⟨w.heap.size, 0, none⟩, j, rfl, Grew.of_below HB.out, own_whole (List.length_replicate ..) HK.out (Nat.le_refl _) (by omega)⟩
end Go.Proofs.YtklhledcnijchaaDoor
