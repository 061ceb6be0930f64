/- Layer 20: the keys that are whole, as the document picks them. Condition: rows that lie in memory that is there. -/
import Derived.Test.YtpcbnmpfiepaeaaDoorRef20
namespace Go.Proofs.YtpcbnmpfiepaeaaDoor
open Go.RowKit
attribute [local go_sem] more_cell more_frozen more_more more_setCell more_of_drew more_of_drewN lt_more le_more past_cell past_cell2 past_frozen past_frozen2 past_setCell past_setCell2 mid_cell mid_frozen mid_setCell
attribute [local go_sem ↓] Go.wp_at_zero Go.wp_at_succ

theorem fW_snoc {l : List (List Vl)} {j : Nat} (h : j < l.length) : (l.take (j + 1)).filter wholeV = if wholeV l[j] then (l.take j).filter wholeV ++ [l[j]] else (l.take j).filter wholeV := by
  rw [List.take_succ_eq_append_getElem h, List.filter_append]
  by_cases hw : wholeV l[j] = true
  · rw [List.filter_cons_of_pos hw, if_pos hw]; rfl
  · rw [List.filter_cons_of_neg hw, if_neg hw]; simp
theorem own_cap20 {w : World} {base n c : Nat} {e : TypeId} {size : Nat} {A : Option Addr} {xs : List Value} (h : w.ownsRow base e size (.slice A n c) n xs) : n ≤ c := by
  rcases h.2 with ⟨h1, h2⟩ | ⟨g, cap, cur, h1, h2, h3, h4, h5⟩
  · omega
  · injection h1 with _ _ h1
    omega
def WrAt (u w : World) (l : List (List Vl)) (v i : Value) (wr : World) : Prop :=
  ∃ (j : Nat) (A : Option Addr) (c : Nat) (css : List (List Value)), j ≤ l.length ∧ i = .int .i64 j ∧ v = .slice A (cntW (l.take j)) c ∧ Grew w wr ∧ wr.ownsRow w.heap.size 23 1 (.slice A (cntW (l.take j)) c) (cntW (l.take j)) css.flatten ∧ ListR (RwR (PRow u)) 1 ((l.take j).filter wholeV) css
set_option maxHeartbeats 4000000 in
set_option maxRecDepth 100000 in
theorem wholesR_any (u : World) (l : List (List Vl)) (hl : l.length ≤ 1000000) (hr : ∀ r ∈ l, r.length ≤ 1000000) (A : Option Addr) (k : Nat) (w : World) (hu : Grew u w) (ra : RwsR (PRow u) A l) :
    Calls Tryd.prog 24 #[.slice A l.length k] w fun e w' => ∃ A k css, e = .returned (.slice A (cntW l) k) ∧ Grew w w' ∧ cntW l ≤ k ∧ w'.ownsRow w.heap.size 23 1 (.slice A (cntW l) k) (cntW l) css.flatten ∧ ListR (RwR (PRow u)) 1 (l.filter wholeV) css := by
  have RA := Lib.hid ra
  have HUw := Lib.hid hu
  have HR := Lib.hid hr
  clear ra hr hu
  go_enter Tryd.func24, Tryd.ntmps24
  go_wp2
  go_loopw [3, 4] (fun v i wr => WrAt u w l v i wr) (fun _ i _ => l.length - (intOf i).toNat)
  case atStart => exact ⟨0, none, 0, [], Nat.zero_le _, rfl, rfl, Grew.refl w, own_none _ _ _ 1, by rw [List.take_zero]; exact ListR.nil⟩
  case round =>
    obtain ⟨j, S, c, css, hj, rfl, rfl, hg, ho, hls⟩ := hrel
    have HL := Lib.hid hls
    have HG := Lib.hid hg
    have HO := Lib.hid ho
    clear hg ho hls
    by_cases h : j < l.length
    · have hji : (j : Int) < (l.length : Int) := by omega
      have e0 : decide ((j : Int) < (l.length : Int)) = true := decide_eq_true hji
      obtain ⟨pb, po, PA, ka, rfl, hpb0, c00, hka, hva0⟩ := rwsR_at RA.out h
      have hva := hva0.grew (HUw.out.trans HG.out)
      have c0 := ((HUw.out.trans HG.out).cell (a := ⟨pb, po + j, none⟩) hpb0).trans c00
      have hpb := Nat.lt_of_lt_of_le hpb0 (HUw.out.trans HG.out).size
      have HFs := Lib.hid (fW_snoc h)
      have HEl : Hid (RwR (PRow u) l[j] [.slice PA l[j].length ka]) := Lib.hid ⟨PA, ka, rfl, hka, hva0⟩
      clear hpb0 c00 hva0
      have HSt := Lib.hid (cntW_snoc h)
      have hcl := Nat.le_trans (cntW_le (l.take j)) (List.length_take_le j l)
      have HW := Lib.hid (rwhole_any l[j] (Nat.le_trans (HR.out _ (List.getElem_mem h)) (by decide)) PA ka wr hva)
      clear hka hva
      obtain ⟨M, hM⟩ : ∃ M, css.flatten = M := ⟨_, rfl⟩
      rw [hM] at HO
      have HMf := Lib.hid hM
      clear hM
      generalize cntW (l.take j) = m at *
      generalize l[j] = x at *
      obtain ⟨t, ht⟩ : ∃ t, wholeV x = t := ⟨_, rfl⟩
      rw [ht] at HSt HW HFs
      clear ht
      cases t
      · have hm : cntW (l.take (j + 1)) = m := by rw [HSt.out]; rfl
        have HM := Lib.hid hm
        clear hm HSt
        go_wp2_with fail
        (with_reducible refine HW.out.grows.mono ?_)
        rintro e w2 ⟨rfl, hg2⟩
        have HG2 := Lib.hid (HG.out.trans hg2)
        have HO2 := Lib.hid (own_thus20 HO.out hg2)
        clear hg2 HW HG HO
        go_wp2
        exact ⟨⟨j + 1, S, c, css, by omega, by go_num, by rw [HM.out], HG2.out, by rw [HM.out, HMf.out]; exact HO2.out, by rw [HFs.out]; first | exact HL.out | (rw [if_neg (by decide)]; exact HL.out) | simpa using HL.out⟩, by simp only [intOf]; omega⟩
      · have hm : cntW (l.take (j + 1)) = m + 1 := by rw [HSt.out]; rfl
        have HM := Lib.hid hm
        clear hm HSt
        go_wp2_with fail
        (with_reducible refine HW.out.grows.mono ?_)
        rintro e w2 ⟨rfl, hg2⟩
        have HG2 := Lib.hid (HG.out.trans hg2)
        have HO2 := Lib.hid (own_thus20 HO.out hg2)
        have c2 := hg2.cell (a := ⟨pb, po + j, none⟩) hpb
        rw [c0] at c2
        have hpb2 := Nat.lt_of_lt_of_le hpb hg2.size
        clear hg2 HW HG HO c0 hpb
        go_wp2_with (at_builtin; refine wpList_apps rfl _ _ 22 23 1 rfl w (.slice none 0 0) 24 Tryd.underlying22 infoRw20 rfl (by decide) (by decide) _ m M rfl (own_alloc HO2.out _) _ 1 1 [.slice PA x.length ka] rfl rfl (row_new _ _ _ _ rfl) (by simp [Value.oneCell']) (by omega) (HG2.out.alloc _) ?_; intro A3 c3 w3 ho3 _ hg3 _ _; have HO3 := Lib.hid ho3; have HG3 := Lib.hid hg3; clear ho3 hg3)
        refine ⟨⟨j + 1, A3, c3, css ++ [[.slice PA x.length ka]], by omega, by go_num, by rw [HM.out], HG3.out, ?_, ?_⟩, by simp only [intOf]; omega⟩
        · rw [HM.out, List.flatten_append, HMf.out]
          exact HO3.out
        · rw [show ∀ (X Y : List (List Vl)), (if True then X else Y) = X from fun X Y => if_pos trivial] at HFs
          rw [HFs.out]
          exact listR_app20 HL.out ⟨rfl, fun i y ds hi hd => by
            rcases i with _ | i
            · simp only [List.getElem?_cons_zero, Option.some.injEq] at hi hd
              subst hi hd
              exact ⟨HEl.out, rfl⟩
            · simp at hi⟩
    · obtain rfl : j = l.length := by omega
      have e0 : decide ((l.length : Int) < (l.length : Int)) = false := decide_eq_false (by omega)
      rw [List.take_length]
      rw [List.take_length] at HO HL
      have HX : Hid (∃ A k css, Ending.returned (.slice S (cntW l) c) = .returned (.slice A (cntW l) k) ∧ Grew w wr ∧ cntW l ≤ k ∧ wr.ownsRow w.heap.size 23 1 (.slice A (cntW l) k) (cntW l) css.flatten ∧ ListR (RwR (PRow u)) 1 (l.filter wholeV) css) := Lib.hid ⟨S, c, css, rfl, HG.out, own_cap20 HO.out, HO.out, HL.out⟩
      clear HO HL
      go_wp2
      go_ret
      exact HX.out
/-- Rows of one's own, of rows that were there. -/
theorem rws_own {u w : World} {base n c : Nat} {A : Option Addr} {l : List (List Vl)} {css : List (List Value)} (h : w.ownsRow base 23 1 (.slice A n c) n css.flatten) (hl : ListR (RwR (PRow u)) 1 l css) (g : Grew u w) : RwsR (PRow w) A l := ⟨css, hl.map fun x cs hx => hx.imp fun _ _ _ h => h.grew g, by
  obtain ⟨A', c'', he, hr⟩ := own_row h
  injection he with h1 _ _
  rw [h1]
  exact hr⟩
end Go.Proofs.YtpcbnmpfiepaeaaDoor
