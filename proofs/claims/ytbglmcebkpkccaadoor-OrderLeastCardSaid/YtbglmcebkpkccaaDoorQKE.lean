/- Layer 29: the law of the share of rows for which an expression may be true. Condition: an expression, and what is said of tables, in memory that is there; the turned signs as they are laid. -/
import Derived.Test.YtbglmcebkpkccaaDoorQKD
import Derived.Test.YtbglmcebkpkccaaDoorQT2
import Derived.Test.YtbglmcebkpkccaaDoorQKB
import Derived.Test.YtbglmcebkpkccaaDoorFrame2
import Derived.Lib.LaidTab

/- Layer 29: the share of rows for which an expression may be true, by the document: all but the comparisons. Condition: no more than a million columns and marks, what is said in memory that is there. -/
namespace Go.Proofs.YtbglmcebkpkccaaDoor
open Go.RowKit
attribute [local go_sem] more_cell more_frozen more_more more_setCell more_of_drew more_of_drewN lt_more le_more past_cell past_cell2 past_frozen past_frozen2 past_setCell past_setCell2 mid_cell mid_frozen mid_setCell
attribute [local go_sem] fldC0 fldC1 fldS0
attribute [local go_sem ↓] Go.wp_at_zero Go.wp_at_succ

theorem halfB_is : halfB = 4602678819172646912 := rfl
end Go.Proofs.YtbglmcebkpkccaaDoor

/- Layer 29: the share of rows for which a comparison may be true, by the document. Condition: no more than a million columns and marks, what is said in memory that is there. -/
namespace Go.Proofs.YtbglmcebkpkccaaDoor
open Go.RowKit
attribute [local go_sem] more_cell more_frozen more_more more_setCell more_of_drew more_of_drewN lt_more le_more past_cell past_cell2 past_frozen past_frozen2 past_setCell past_setCell2 mid_cell mid_frozen mid_setCell
attribute [local go_sem] fldC0 fldC1 fldS0
attribute [local go_sem ↓] Go.wp_at_zero Go.wp_at_succ

theorem tab7 {w : World} {g : Nat} {v0 v1 v2 v3 v4 v5 v6 : Value} (h : Blok w g 3 #[v0, v1, v2, v3, v4, v5, v6]) : g < w.heap.size ∧ w.cell? ⟨g, 1, none⟩ = some v1 ∧ w.cell? ⟨g, 2, none⟩ = some v2 ∧ w.cell? ⟨g, 3, none⟩ = some v3 ∧ w.cell? ⟨g, 4, none⟩ = some v4 ∧ w.cell? ⟨g, 5, none⟩ = some v5 ∧ w.cell? ⟨g, 6, none⟩ = some v6 :=
  ⟨h.lt, h.cell 1, h.cell 2, h.cell 3, h.cell 4, h.cell 5, h.cell 6⟩
end Go.Proofs.YtbglmcebkpkccaaDoor

/- Layer 29: the share of rows for which an expression may be true, by the document. Condition: no more than a million columns and marks, what is said, and an expression, in memory that is there. -/
namespace Go.Proofs.YtbglmcebkpkccaaDoor
open Go.RowKit

end Go.Proofs.YtbglmcebkpkccaaDoor

namespace Go.Proofs.YtbglmcebkpkccaaDoor
open Go.RowKit
attribute [local go_sem] more_cell more_frozen more_more more_setCell more_of_drew more_of_drewN lt_more le_more past_cell past_cell2 past_frozen past_frozen2 past_setCell past_setCell2 mid_cell mid_frozen mid_setCell
attribute [local go_sem ↓] Go.wp_at_zero Go.wp_at_succ

/-- As much as can lie in memory. -/
def LrgSd (l : List Sst) : Prop := ∀ s ∈ l, s.cols.length ≤ 1000000000000000
def FewSd (l : List Sst) : Prop := ∀ s ∈ l, s.cols.length ≤ 30 ∧ ∀ c ∈ s.cols, c.m.length ≤ 60
section
variable {H : Type} {enc : TypeId × Value → H} {W : World}
theorem rdw_ssts : RdW enc Tryd.prog W 30 1 (fun (l : List Sst) cs => (∃ A c, cs = [.slice A l.length c] ∧ l.length ≤ c ∧ SstsR (PRow W) A l) ∧ LrgSd l) :=
  rdw_map (rdw_slice Tryd.underlying30 (by kernel_rfl) (by decide) (bytes := 32) (by kernel_rfl) rdw_sst) fun l cs ⟨A, c, css, h1, h2, _, h4, h5, h6⟩ => by
    have h7 : ListR (fun (s : Sst) cs => SstR (PRow W) s cs ∧ s.cols.length ≤ 1000000000000000) 2 l css := h5.map fun s cs ⟨A, c, e, hb, hr⟩ => ⟨⟨A, c, e, hr⟩, hb⟩
    exact ⟨⟨A, c, h1, h2, css, h7.each.1, h6⟩, h7.each.2⟩
end
def MuAt (w : World) (l : List Sst) (i : Value) (wr : World) : Prop := ∃ j : Nat, j ≤ l.length ∧ j ≤ 20 ∧ i = .int .i64 j ∧ FewSd (l.take j) ∧ Grew w wr
theorem rmuch29s_any (l : List Sst) (hl : LrgSd l) (A : Option Addr) (k : Nat) (w : World) (ra : SstsR (PRow w) A l) :
    Calls Tryd.prog 5 #[.slice A l.length k] w (MuchR w (l.length ≤ 16 ∧ FewSd l)) := by
  have RA := Lib.hid ra
  have HL := Lib.hid hl
  clear ra hl
  go_enter Tryd.func5, Tryd.ntmps5
  go_wp2
  go_loopw [3] (fun i wr => MuAt w l i wr) (fun i _ => 20 - (intOf i).toNat)
  case atStart => exact ⟨0, Nat.zero_le _, Nat.zero_le _, rfl, by simp [FewSd], Grew.refl _⟩
  case round =>
    obtain ⟨j, hj, hj2, rfl, hf, hg⟩ := hrel
    have HG := Lib.hid hg
    have HF := Lib.hid hf
    clear hg hf
    by_cases h : j < l.length
    · by_cases h2 : j < 20
      · obtain ⟨b, o, B, c, rfl, hb, d0, d1, hr⟩ := sstsR_at (RA.out.grew HG.out) h
        have hlr := HL.out _ (List.getElem_mem h)
        have HM : Hid (∀ W, Grew wr W → Calls Tryd.prog 12 #[.agg #[.int .i64 l[j].rows, .slice B l[j].cols.length c]] W fun e w' => ∃ t : Bool, e = .returned (.bool t) ∧ Grew W w' ∧ (t = false → l[j].cols.length ≤ 30 ∧ ∀ c ∈ l[j].cols, c.m.length ≤ 60)) := Lib.hid fun W hW => rmuchS_any l[j].rows l[j].cols B c hlr W (hr.grew hW)
        have HT : Hid ((l[j].cols.length ≤ 30 ∧ ∀ c ∈ l[j].cols, c.m.length ≤ 60) → FewSd (l.take (j + 1))) := Lib.hid fun hx s hs => by
          rw [List.take_succ_eq_append_getElem h] at hs
          rcases List.mem_append.1 hs with hs | hs
          · exact HF.out s hs
          · rw [List.mem_singleton.1 hs]; exact hx
        clear hr hlr
        generalize l[j] = s at *
        go_wp2_with fail
        refine (HM.out _ (Grew.refl _)).mono ?_
        rintro e w2 ⟨t, rfl, hg2, ht⟩
        have HG2 := Lib.hid (HG.out.trans hg2)
        have HX := Lib.hid ht
        clear hg2 ht d0 d1 hb
        cases t
        · go_wp2
          exact ⟨⟨j + 1, by omega, by omega, by go_num, HT.out (HX.out (by trivial)), HG2.out⟩, by simp only [intOf]; omega⟩
        · go_wp2
          go_ret
          exact muchR_true _ HG2.out
      · obtain rfl : j = 20 := by omega
        have h16 : decide ((16 : Int) < (l.length : Int)) = true := decide_eq_true (by omega)
        go_wp2
        go_ret
        exact muchR_true _ HG.out
    · obtain rfl : j = l.length := by omega
      rw [List.take_length] at HF
      by_cases h16 : l.length ≤ 16
      · have h16' : decide ((16 : Int) < (l.length : Int)) = false := decide_eq_false (by omega)
        go_wp2
        go_ret
        exact muchR_false HG.out ⟨h16, HF.out⟩
      · have h16' : decide ((16 : Int) < (l.length : Int)) = true := decide_eq_true (by omega)
        go_wp2
        go_ret
        exact muchR_true _ HG.out
theorem turn_of {w : World} (h : Lib.TabIs Tryd.prog w "trommel/cost.turned" .i64 [0, 1, 2, 5, 6, 3, 4]) : TurnC w := by
  have hg : Tryd.prog.globalNamed "trommel/cost.turned" = some 1 := by kernel_rfl
  exact ⟨cell_lt (h.cell hg 1 (by decide)), h.cell hg 1 (by decide), h.cell hg 2 (by decide), h.cell hg 3 (by decide), h.cell hg 4 (by decide), h.cell hg 5 (by decide), h.cell hg 6 (by decide)⟩
end Go.Proofs.YtbglmcebkpkccaaDoor
