/- Layers 4 and 5: rows.Without. Condition: no more than a million rows. -/
import Derived.Test.YtklhledcnijchaaDoorCopied
import Derived.Deep.RegionWith
namespace Go.Proofs.YtklhledcnijchaaDoor
open Go.RowKit
attribute [local go_sem] more_cell more_frozen more_more more_setCell more_of_drew more_of_drewN lt_more le_more past_cell past_cell2 past_frozen past_frozen2 past_setCell past_setCell2 mid_cell mid_frozen mid_setCell
attribute [local go_sem ↓] Go.wp_at_zero Go.wp_at_succ

/-- All but one. -/
def withoutI {α : Type} (l : List α) (i : Int) : List α := if 0 ≤ i ∧ i < l.length then l.eraseIdx i.toNat else l
theorem withoutI_out {α : Type} {l : List α} {i : Int} (h : ¬ (0 ≤ i ∧ i < l.length)) : withoutI l i = l := if_neg h
theorem withoutI_in {α : Type} {l : List α} {i : Nat} (h : i < l.length) : withoutI l i = l.take i ++ l.drop (i + 1) := by
  unfold withoutI
  rw [if_pos ⟨by omega, by omega⟩, List.eraseIdx_eq_take_drop_succ]
  simp
theorem withoutI_len {α : Type} (l : List α) (i : Int) : (withoutI l i).length ≤ l.length := by
  unfold withoutI
  split
  · exact List.length_eraseIdx_le _ _
  · exact Nat.le_refl _
theorem withoutI_mem {α : Type} {l : List α} {i : Int} {x : α} (h : x ∈ withoutI l i) : x ∈ l := by
  unfold withoutI at h
  split at h
  · exact List.mem_of_mem_eraseIdx h
  · exact h
/-- A list of rows is handed back. -/
def RowsF (u w : World) (l : List (List Vl)) (e : Ending) (w' : World) : Prop := ∃ A k, e = .returned (.slice A l.length k) ∧ l.length ≤ k ∧ Grew w w' ∧ RwsR (MRow u w') A l
theorem VlsR.old {u w : World} {A : Option Addr} {l : List Vl} (h : VlsR (PRow u) A l) : VlsR (MRow u w) A l := h.imp fun _ _ _ hx => MRow.old hx
theorem RwR.old {u w : World} {x : List Vl} {cs : List Value} (h : RwR (PRow u) x cs) : RwR (MRow u w) x cs := h.imp fun _ _ _ hx => MRow.old hx
theorem rwR_one {R : Rw} {x : List Vl} {cs : List Value} (h : RwR R x cs) : ∀ u ∈ cs, u.oneCell' = true := by
  obtain ⟨A, k, rfl, _⟩ := h
  intro u hu
  simp at hu
  subst hu
  rfl
theorem ListR.drop {α : Type} {R : α → List Value → Prop} {size : Nat} {l : List α} {css : List (List Value)} (h : ListR R size l css) (i : Nat) : ListR R size (l.drop i) (css.drop i) := by
  refine ⟨by simp [h.1], fun j x cs h1 h2 => ?_⟩
  rw [List.getElem?_drop] at h1 h2
  exact h.2 (i + j) x cs h1 h2
theorem ListR.append {α : Type} {R : α → List Value → Prop} {size : Nat} {l m : List α} {css dss : List (List Value)} (h : ListR R size l css) (k : ListR R size m dss) : ListR R size (l ++ m) (css ++ dss) := by
  refine ⟨by simp [h.1, k.1], fun j x cs h1 h2 => ?_⟩
  rcases Nat.lt_or_ge j l.length with hj | hj
  · rw [List.getElem?_append_left hj] at h1
    rw [List.getElem?_append_left (by rw [h.1]; exact hj)] at h2
    exact h.2 j x cs h1 h2
  · rw [List.getElem?_append_right hj] at h1
    rw [List.getElem?_append_right (by rw [h.1]; exact hj), h.1] at h2
    exact k.2 _ x cs h1 h2
theorem ListR.one {α : Type} {R : α → List Value → Prop} {l : List α} {css : List (List Value)} (h : ListR R 1 l css) (p : Value → Prop) (hp : ∀ x cs, R x cs → ∀ u ∈ cs, p u) : ∀ u ∈ css.flatten, p u := by
  intro u hu
  rw [List.mem_flatten] at hu
  obtain ⟨cs, hcs, hu⟩ := hu
  obtain ⟨i, hi, rfl⟩ := List.mem_iff_getElem.1 hcs
  exact hp _ _ (h.2 i (l[i]'(by rw [← h.1]; exact hi)) _ (List.getElem?_eq_getElem _) (List.getElem?_eq_getElem hi)).1 u hu
theorem flat_one : ∀ (css : List (List Value)), (∀ cs ∈ css, cs.length = 1) → ∀ i, (css.take i).flatten = css.flatten.take i ∧ (css.drop i).flatten = css.flatten.drop i
  | [], _, i => by simp
  | c :: css, h, i => by
    have hc := h c (by simp)
    match c, hc with
    | [x], _ =>
      rcases i with _ | i
      · simp
      · have := flat_one css (fun cs hcs => h cs (by simp [hcs])) i
        simp only [List.take_succ_cons, List.flatten_cons, List.drop_succ_cons, List.cons_append, List.nil_append]
        exact ⟨by rw [this.1], this.2⟩
theorem row_take {w : World} {A : Option Addr} {xs : List Value} (h : Row w A xs) (i : Nat) : Row w A (xs.take i) := by
  rw [← List.take_append_drop i xs] at h
  exact h.front
theorem row_drop {w : World} {b o : Nat} {xs : List Value} (h : Row w (some ⟨b, o, none⟩) xs) (i : Nat) : Row w (some ⟨b, o + i, none⟩) (xs.drop i) := by
  rcases h with h | ⟨b', o', hA, hlt, hc⟩
  · subst h; exact Or.inl (by simp)
  · injection hA with hA
    injection hA with e1 e2 _
    subst e1 e2
    exact Or.inr ⟨b, o + i, rfl, hlt, fun j u hu => by rw [List.getElem?_drop] at hu; rw [Nat.add_assoc]; exact hc _ _ hu⟩
theorem two_parts {W : World} {a b : Part} (h1 : PartR W a) (h2 : PartR W b) : ∀ p ∈ [a, b], PartR W p := by
  intro p hp
  rcases List.mem_cons.1 hp with rfl | hp
  · exact h1
  · rw [List.mem_singleton.1 hp]; exact h2
set_option maxHeartbeats 1000000 in
set_option maxRecDepth 100000 in
theorem without_any (l : List (List Vl)) (n : Nat) (hl : l.length = n) (hn : n ≤ 1000000) (i : Int) (A : Option Addr) (k : Nat) (hk : n ≤ k) (u w : World) (g : Grew u w) (ra : RwsR (PRow u) A l) :
    Calls Tryd.prog 19 #[.slice A n k, .int .i64 i] w (RowsF u w (withoutI l i)) := by
  obtain ⟨css, h1, h2⟩ := ra
  have hlen : css.flatten.length = n := by rw [h1.flat, hl, Nat.mul_one]
  have hone : ∀ u ∈ css.flatten, u.oneCell' = true := h1.one _ fun x cs hx => rwR_one hx
  have HC : Hid (∀ (ps : List Part) (m : Nat), ps.length = m → m ≤ 1000000 → lensP ps ≤ 1000000 → ∀ P k W, Row W P (ps.map partV) → (∀ p ∈ ps, PartR W p) → Calls Tryd.prog 54 #[.slice P m k] W (MineF W 22 (lensP ps) (flatP ps))) := Lib.hid fun ps m hm hm1 hN P k W hp hps => copied_rows ps m hm hm1 hN P k W hp hps
  by_cases hin : 0 ≤ i ∧ i < n
  · obtain ⟨q, rfl⟩ : ∃ q : Nat, i = q := ⟨i.toNat, by omega⟩
    obtain ⟨hi0, hi1⟩ := hin
    have hq : q < n := by omega
    rw [withoutI_in (by omega)]
    have hf := flat_one css h1.all
    have h1' : ListR (RwR (PRow u)) 1 (l.take q ++ l.drop (q + 1)) (css.take q ++ css.drop (q + 1)) := (h1.take q).append (h1.drop (q + 1))
    have hfl : (css.take q ++ css.drop (q + 1)).flatten = css.flatten.take q ++ css.flatten.drop (q + 1) := by rw [List.flatten_append, (hf q).1, (hf (q + 1)).2]
    have hl2 : (l.take q ++ l.drop (q + 1)).length = n - 1 := by simp; omega
    generalize css.flatten = xs at *
    obtain ⟨b, o, rfl, hbb⟩ := h2.at_ (k := q) (by omega)
    have HR : Hid (∀ W, Grew w W → ∀ A' k' W', n - 1 ≤ k' → Grew W W' → TRow W.heap.size W' 22 A' (xs.take q ++ xs.drop (q + 1)) → RowsF u w (l.take q ++ l.drop (q + 1)) (.returned (.slice A' (n - 1) k')) W') := Lib.hid fun W hW A' k' W' hk' hg hm => by
      refine ⟨A', k', by rw [hl2], by omega, hW.trans hg, _, h1'.map fun x cs hx => hx.old, ?_⟩
      rw [hfl]
      exact Or.inr (hm.low (g.trans hW).size)
    obtain ⟨q0, hq0⟩ : ∃ q0, q0 = n - 1 := ⟨_, rfl⟩
    rw [← hq0] at HR
    have hxl : xs.length = n := hlen
    have HX1 : Hid (∀ W, Grew w W → PartR W ⟨some ⟨b, o, none⟩, q, q, xs.take q⟩) := Lib.hid fun W hW => ⟨by show (xs.take q).length = q; rw [List.length_take]; omega, (row_take h2 q).grew (g.trans hW), fun u hu => hone u (List.mem_of_mem_take hu)⟩
    have HX2 : Hid (∀ W, Grew w W → PartR W ⟨some ⟨b, o + (q + 1), none⟩, n - (q + 1), k - (q + 1), xs.drop (q + 1)⟩) := Lib.hid fun W hW => ⟨by show (xs.drop (q + 1)).length = n - (q + 1); rw [List.length_drop]; omega, (row_drop h2 (q + 1)).grew (g.trans hW), fun u hu => hone u (List.mem_of_mem_drop hu)⟩
    have HX3 : Hid (q + 1 = k → ∀ W, Grew w W → PartR W ⟨some ⟨b, o, none⟩, 0, 0, xs.drop (q + 1)⟩) := Lib.hid fun e W hW => by
      have : xs.drop (q + 1) = [] := List.drop_of_length_le (by omega)
      rw [this]
      exact ⟨rfl, Or.inl rfl, by simp⟩
    have hdr : Hid (lensP [⟨some ⟨b, o, none⟩, q, q, xs.take q⟩, ⟨some ⟨b, o + (q + 1), none⟩, n - (q + 1), k - (q + 1), xs.drop (q + 1)⟩] = q0) := Lib.hid (by simp [lensP]; omega)
    have hdr3 : Hid (q + 1 = k → lensP [⟨some ⟨b, o, none⟩, q, q, xs.take q⟩, ⟨some ⟨b, o, none⟩, 0, 0, xs.drop (q + 1)⟩] = q0) := Lib.hid (fun e => by simp [lensP]; omega)
    have hfp : Hid (flatP [⟨some ⟨b, o, none⟩, q, q, xs.take q⟩, ⟨some ⟨b, o + (q + 1), none⟩, n - (q + 1), k - (q + 1), xs.drop (q + 1)⟩] = xs.take q ++ xs.drop (q + 1)) := Lib.hid (by simp [flatP])
    have hfp3 : Hid (flatP [⟨some ⟨b, o, none⟩, q, q, xs.take q⟩, ⟨some ⟨b, o, none⟩, 0, 0, xs.drop (q + 1)⟩] = xs.take q ++ xs.drop (q + 1)) := Lib.hid (by simp [flatP])
    clear hbb h1 h2 hlen hone hf h1' hfl hl2 hxl
    have hq02 : q0 ≤ 1000000 := by omega
    have hq5 : (q : Int) < (n : Int) := by omega
    clear hq0
    obtain ⟨L, hL⟩ : ∃ L, l.take q ++ l.drop (q + 1) = L := ⟨_, rfl⟩
    rw [hL] at HR ⊢
    clear hL
    by_cases hqk : q + 1 = k
    · have hd3 := Lib.hid (hdr3.out hqk)
      have HX4 := Lib.hid (HX3.out hqk)
      clear HX3 hdr3
      subst hqk
      have HCs : Hid (∀ W P, Grew w W → Row W P [.slice (some ⟨b, o, none⟩) q q, .slice (some ⟨b, o, none⟩) 0 0] → Calls Tryd.prog 54 #[.slice P 2 2] W (RowsF u w L)) := Lib.hid fun W P hW hP => by
        have h := HC.out [⟨some ⟨b, o, none⟩, q, q, xs.take q⟩, ⟨some ⟨b, o, none⟩, 0, 0, xs.drop (q + 1)⟩] 2 rfl (by decide) (by rw [hd3.out]; exact hq02) P 2 W hP (two_parts (HX1.out _ hW) (HX4.out _ hW))
        rw [hd3.out, hfp3.out] at h
        exact h.mono fun e w2 ⟨A2, k2, he, hk2, hg2, hr2⟩ => by rw [he]; exact HR.out W hW A2 k2 w2 hk2 hg2 hr2
      clear HC HX1 HX2 HX4 HR hdr hd3 hfp hfp3
      have w1 : IntKind.i64.wrap ((q : Int) + 1) = (q : Int) + 1 := IntWalk.i64_in _ (by omega)
      have w2 : 0 ≤ (q : Int) + 1 := by omega
      have w3 : ((q : Int) + 1).toNat = q + 1 := by omega
      have w4 : (q : Int) + 1 ≤ n := by omega
      go_enter Tryd.func19, Tryd.ntmps19
      go_wp2_with fail
      go_region_with ((go_at_call 54; (refine (HCs.out _ _ (by (show Grew _ _; repeat (first | exact Grew.refl _ | refine Grew.alloc ?_ _ | refine Grew.drew ?_ | refine Grew.more ?_ _))) (Row.grew (row_new w _ _ _ rfl) ((Grew.refl _).drew))).mono ?_); rintro e w2 ⟨A2, k2, rfl, hk2, hg2, hr2⟩; have HRR := Lib.hid hr2; have HGG := Lib.hid hg2; clear hg2 hr2))
      all_goals go_wp2
      all_goals go_ret
      all_goals exact ⟨A2, k2, rfl, hk2, HGG.out, HRR.out⟩
    · have hqk2 : q + 1 < k := by omega
      clear HX3 hdr3
      have HCs : Hid (∀ W P, Grew w W → Row W P [.slice (some ⟨b, o, none⟩) q q, .slice (some ⟨b, o + (q + 1), none⟩) (n - (q + 1)) (k - (q + 1))] → Calls Tryd.prog 54 #[.slice P 2 2] W (RowsF u w L)) := Lib.hid fun W P hW hP => by
        have h := HC.out [⟨some ⟨b, o, none⟩, q, q, xs.take q⟩, ⟨some ⟨b, o + (q + 1), none⟩, n - (q + 1), k - (q + 1), xs.drop (q + 1)⟩] 2 rfl (by decide) (by rw [hdr.out]; exact hq02) P 2 W hP (two_parts (HX1.out _ hW) (HX2.out _ hW))
        rw [hdr.out, hfp.out] at h
        exact h.mono fun e w2 ⟨A2, k2, he, hk2, hg2, hr2⟩ => by rw [he]; exact HR.out W hW A2 k2 w2 hk2 hg2 hr2
      clear HC HX1 HX2 HR hdr hfp hfp3
      have w1 : IntKind.i64.wrap ((q : Int) + 1) = (q : Int) + 1 := IntWalk.i64_in _ (by omega)
      have w2 : 0 ≤ (q : Int) + 1 := by omega
      have w3 : ((q : Int) + 1).toNat = q + 1 := by omega
      have w4 : (q : Int) + 1 ≤ n := by omega
      go_enter Tryd.func19, Tryd.ntmps19
      go_wp2_with fail
      go_region_with ((go_at_call 54; (refine (HCs.out _ _ (by (show Grew _ _; repeat (first | exact Grew.refl _ | refine Grew.alloc ?_ _ | refine Grew.drew ?_ | refine Grew.more ?_ _))) (Row.grew (row_new w _ _ _ rfl) ((Grew.refl _).drew))).mono ?_); rintro e w2 ⟨A2, k2, rfl, hk2, hg2, hr2⟩; have HRR := Lib.hid hr2; have HGG := Lib.hid hg2; clear hg2 hr2))
      all_goals go_wp2
      all_goals go_ret
      all_goals exact ⟨A2, k2, rfl, hk2, HGG.out, HRR.out⟩
  · have HR : Hid (∀ W, Grew w W → ∀ A' k' W', n ≤ k' → Grew W W' → TRow W.heap.size W' 22 A' css.flatten → RowsF u w (withoutI l i) (.returned (.slice A' n k')) W') := Lib.hid fun W hW A' k' W' hk' hg hm => by
      rw [withoutI_out (by rw [hl]; exact hin)]
      refine ⟨A', k', by rw [hl], by omega, hW.trans hg, _, h1.map fun x cs hx => hx.old, ?_⟩
      exact Or.inr (hm.low (g.trans hW).size)
    have HP1 : Hid (∀ W, Grew w W → PartR W ⟨A, n, k, css.flatten⟩) := Lib.hid fun W hW => ⟨hlen, Row.grew h2 (g.trans hW), hone⟩
    have HF : Hid (flatP [⟨A, n, k, css.flatten⟩] = css.flatten) := Lib.hid (by simp [flatP])
    have HLn : Hid (lensP [⟨A, n, k, css.flatten⟩] = n) := Lib.hid (by simp [lensP])
    clear h1 h2 hlen hone
    generalize css.flatten = xs at *
    by_cases h0 : i < 0
    · go_enter Tryd.func19, Tryd.ntmps19
      go_wp2_with fail
      refine (HC.out [⟨A, n, k, xs⟩] 1 rfl (by decide) (by rw [HLn.out]; exact hn) _ _ _ ?_ ?_).mono ?_
      · exact row_one _ _ _ _ rfl
      · intro p hp
        rw [List.mem_singleton.1 hp]
        exact HP1.out _ ((Grew.refl w).alloc _)
      · rw [HLn.out, HF.out]
        rintro e w2 ⟨A2, k2, rfl, hk2, hg2, hr2⟩
        have HRR := Lib.hid (HR.out _ ((Grew.refl w).alloc _) A2 k2 w2 hk2 hg2 hr2)
        clear hk2 hg2 hr2
        go_wp2
        go_ret
        exact HRR.out
    · have h0' : 0 ≤ i := by omega
      have h1' : (n : Int) ≤ i := by omega
      go_enter Tryd.func19, Tryd.ntmps19
      go_wp2_with fail
      refine (HC.out [⟨A, n, k, xs⟩] 1 rfl (by decide) (by rw [HLn.out]; exact hn) _ _ _ ?_ ?_).mono ?_
      · exact row_one _ _ _ _ rfl
      · intro p hp
        rw [List.mem_singleton.1 hp]
        exact HP1.out _ ((Grew.refl w).alloc _)
      · rw [HLn.out, HF.out]
        rintro e w2 ⟨A2, k2, rfl, hk2, hg2, hr2⟩
        have HRR := Lib.hid (HR.out _ ((Grew.refl w).alloc _) A2 k2 w2 hk2 hg2 hr2)
        clear hk2 hg2 hr2
        go_wp2
        go_ret
        exact HRR.out
end Go.Proofs.YtklhledcnijchaaDoor
