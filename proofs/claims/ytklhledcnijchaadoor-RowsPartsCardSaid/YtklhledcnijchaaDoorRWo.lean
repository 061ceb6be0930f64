/- Layer 4: the document's Without of rows. Condition: no more than a million of them. -/
import Derived.Test.YtklhledcnijchaaDoorTab10
namespace Go.Proofs.YtklhledcnijchaaDoor
open Go.RowKit
attribute [local go_sem] more_cell more_frozen more_more more_setCell more_of_drew more_of_drewN lt_more le_more past_cell past_cell2 past_frozen past_frozen2 past_setCell past_setCell2 mid_cell mid_frozen mid_setCell
attribute [local go_sem ↓] Go.wp_at_zero Go.wp_at_succ

theorem withoutI_nil {α : Type} (i : Int) : withoutI ([] : List α) i = [] := by unfold withoutI; split <;> simp
theorem withoutI_at {α : Type} {l : List α} {j : Nat} (h : j < l.length) : withoutI (l.take (j + 1)) j = withoutI (l.take j) j := by
  rw [withoutI_in (by simp; omega), withoutI_out (by simp only [List.length_take]; omega)]
  rw [List.take_take, List.drop_of_length_le (by simp; omega)]
  simp
theorem withoutI_snoc {α : Type} {l : List α} {j : Nat} {i : Int} (h : j < l.length) (hi : ¬ (j : Int) = i) : withoutI (l.take (j + 1)) i = withoutI (l.take j) i ++ [l[j]] := by
  have hl : (l.take j).length = j := by simp; omega
  rw [List.take_succ_eq_append_getElem h]
  unfold withoutI
  by_cases h1 : 0 ≤ i ∧ i < j
  · rw [if_pos (by simp only [List.length_append, hl]; simp; omega), if_pos (by rw [hl]; omega), List.eraseIdx_append_of_lt_length (by omega)]
  · rw [if_neg (by simp only [List.length_append, hl]; simp; omega), if_neg (by rw [hl]; exact h1)]
def WoAt (u w : World) (l : List (List Vl)) (i : Int) (v p : Value) (wr : World) : Prop :=
  ∃ (j : Nat) (A : Option Addr) (c : Nat) (css : List (List Value)), j ≤ l.length ∧ p = .int .i64 j ∧ v = .slice A (withoutI (l.take j) i).length c ∧ Grew w wr ∧
    wr.ownsRow w.heap.size 22 1 (.slice A (withoutI (l.take j) i).length c) (withoutI (l.take j) i).length css.flatten ∧ ListR (RwR (PRow u)) 1 (withoutI (l.take j) i) css
set_option maxHeartbeats 1000000 in
theorem rwithout_any (l : List (List Vl)) (n : Nat) (hl : l.length = n) (hn : n ≤ 1000000) (i : Int) (A : Option Addr) (k : Nat) (u w : World) (g : Grew u w) (ra : RwsR (PRow u) A l) :
    Calls Tryd.prog 17 #[.slice A n k, .int .i64 i] w (RowsF u w (withoutI l i)) := by
  have RA := Lib.hid ra
  have HM := Lib.hid hl
  have GU := Lib.hid g
  clear ra hl g
  go_enter Tryd.func17, Tryd.ntmps17
  go_wp2
  go_loopw [5, 6] (fun v p wr => WoAt u w l i v p wr) (fun _ p _ => n - (intOf p).toNat)
  case atStart => exact ⟨0, none, 0, [], Nat.zero_le _, rfl, by rw [List.take_zero, withoutI_nil]; rfl, Grew.refl w, by rw [List.take_zero, withoutI_nil]; exact own_none w w.heap.size _ 1, by rw [List.take_zero, withoutI_nil]; exact ListR.nil⟩
  case round =>
    obtain ⟨j, A2, c2, css, hj, rfl, rfl, hg, ho, hls⟩ := hrel
    rw [HM.out] at hj
    have HG := Lib.hid hg
    have HO := Lib.hid ho
    have HL := Lib.hid hls
    have hwl := withoutI_len (l.take j) i
    clear hg ho hls
    by_cases h : j < n
    · have h1 : j < l.length := by rw [HM.out]; exact h
      by_cases hi : (j : Int) = i
      · have e0 : ((j : Int) != i) = false := by simp [hi]
        have HW : Hid (withoutI (l.take (j + 1)) i = withoutI (l.take j) i) := Lib.hid (by rw [← hi]; exact withoutI_at h1)
        clear hi
        go_wp2
        exact ⟨⟨j + 1, A2, c2, css, by rw [HM.out]; omega, by go_num, by rw [HW.out], HG.out, by rw [HW.out]; exact HO.out, by rw [HW.out]; exact HL.out⟩, by simp only [intOf]; omega⟩
      · have e0 : ((j : Int) != i) = true := by simp [hi]
        have HW := Lib.hid (withoutI_snoc h1 hi)
        obtain ⟨b, o, B, kb, rfl, hb, hc, hkb, hv⟩ := rwsR_at RA.out h1
        have hbw : b < wr.heap.size := Nat.lt_of_lt_of_le hb (GU.out.trans HG.out).size
        have hcw := ((GU.out.trans HG.out).cell (a := ⟨b, o + j, none⟩) hb).trans hc
        have HV : Hid (RwR (PRow u) l[j] [.slice B l[j].length kb]) := Lib.hid ⟨B, kb, rfl, hkb, hv⟩
        have hwl2 : (withoutI (l.take j) i).length ≤ 1000000 := by
          have : (l.take j).length ≤ j := List.length_take_le _ _
          omega
        clear hc hv hb hi hwl
        generalize l[j] = r at *
        generalize hK : withoutI (l.take j) i = K at *
        clear hK
        generalize hn2 : K.length = m2 at *
        have HN2 := Lib.hid hn2
        clear hn2
        go_wp2_with (at_builtin; refine wpList_app rfl _ _ 24 22 rfl w (.slice none 0 0) 24 Tryd.underlying24 infoRw rfl (by decide) _ m2 _ rfl (own_alloc HO.out _) _ 1 1 [.slice B r.length kb] rfl rfl (row_one _ _ _ _ rfl) (by simp [Value.oneCell']) (by omega) (HG.out.alloc _) ?_; intro A' c' w' ho' _ hg' _ _; have HO2 := Lib.hid ho'; have HG2 := Lib.hid hg'; clear ho' hg')
        exact ⟨⟨j + 1, A', c', css ++ [[.slice B r.length kb]], by rw [HM.out]; omega, by go_num, by rw [HW.out]; simp [HN2.out], HG2.out, by rw [HW.out]; simpa [HN2.out] using HO2.out, by rw [HW.out]; exact HL.out.snoc HV.out rfl⟩, by simp only [intOf]; omega⟩
    · obtain rfl : j = n := by omega
      have hR : RowsF u w (withoutI l i) (.returned (.slice A2 (withoutI l i).length c2)) wr := by
        have h1 := HO.out
        have h2 := HL.out
        rw [List.take_of_length_le (Nat.le_of_eq HM.out)] at h1 h2
        exact ⟨A2, c2, rfl, own_cap' h1, HG.out, css, h2.map fun x cs hx => hx.old, MRow.own (own_le h1 GU.out.size)⟩
      have HR := Lib.hid hR
      have HTk : Hid (withoutI (l.take j) i = withoutI l i) := Lib.hid (by rw [List.take_of_length_le (Nat.le_of_eq HM.out)])
      rw [HTk.out]
      clear hR HO HL
      go_wp2
      go_ret
      exact HR.out
end Go.Proofs.YtklhledcnijchaaDoor
