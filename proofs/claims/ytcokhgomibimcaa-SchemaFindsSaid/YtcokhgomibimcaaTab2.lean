/- Layer 5: the place of the first of a name. No condition. -/
import Derived.Test.YtcokhgomibimcaaTabMath
import Derived.Test.YtcokhgomibimcaaHead
namespace Go.Proofs.Ytcokhgomibimcaa
open Go.RowKit
attribute [local go_sem] more_cell more_frozen more_more more_setCell more_of_drew more_of_drewN lt_more le_more past_cell past_cell2 past_frozen past_frozen2 past_setCell past_setCell2 mid_cell mid_frozen mid_setCell
attribute [local go_sem ↓] Go.wp_at_zero Go.wp_at_succ

theorem lt_some {α : Type} {l : List α} {i : Nat} {x : α} (h : l[i]? = some x) : i < l.length := by
  rcases Nat.lt_or_ge i l.length with hlt | hge
  · exact hlt
  · rw [List.getElem?_eq_none hge] at h; cases h
theorem Row.front {w : World} {A : Option Addr} {xs ys : List Value} (h : Row w A (xs ++ ys)) : Row w A xs := by
  rcases h with h | ⟨b, o, hA, hb, hc⟩
  · exact Or.inl (List.append_eq_nil_iff.1 h).1
  · exact Or.inr ⟨b, o, hA, hb, fun j u hu => hc j u (by rw [List.getElem?_append_left (lt_some hu)]; exact hu)⟩
theorem Row.take_flat {w : World} {A : Option Addr} {css : List (List Value)} (h : Row w A css.flatten) (i : Nat) : Row w A (css.take i).flatten := by
  rw [← List.take_append_drop i css, List.flatten_append] at h
  exact h.front
theorem ListR.take {α : Type} {R : α → List Value → Prop} {size : Nat} {l : List α} {css : List (List Value)} (h : ListR R size l css) (i : Nat) : ListR R size (l.take i) (css.take i) := by
  refine ⟨by simp [h.1], fun j x cs h1 h2 => ?_⟩
  have hj : j < i := by have := lt_some h1; simp at this; omega
  rw [List.getElem?_take_of_lt hj] at h1 h2
  exact h.2 j x cs h1 h2
theorem TbsR.take {w : World} {A : Option Addr} {l : List Tb} (h : TbsR (PRow w) A l) (i : Nat) : TbsR (PRow w) A (l.take i) := by
  obtain ⟨css, h1, h2⟩ := h
  exact ⟨_, h1.take i, Row.take_flat h2 i⟩
theorem ClsR.take {w : World} {A : Option Addr} {l : List Cl} (h : ClsR (PRow w) A l) (i : Nat) : ClsR (PRow w) A (l.take i) := by
  obtain ⟨css, h1, h2⟩ := h
  exact ⟨_, h1.take i, Row.take_flat h2 i⟩
theorem Grew.cell {w w' : World} (h : Grew w w') {a : Addr} (ha : a.block < w.heap.size) : w'.cell? a = w.cell? a := by
  obtain ⟨x, rfl⟩ := h
  exact more_cell w x a ha
def tbV (x : Tb) (A : Option Addr) (k : Nat) (B : Option Addr) (j : Nat) : Value := .agg #[.string x.name, .slice A x.cols.length k, .slice B x.rows.length j]
def clV (x : Cl) : Value := .agg #[.string x.name, .int .i64 x.kind]
theorem named_is (x : Tb) (A B : Option Addr) (k j g : Nat) (n : ByteArray) (t : Bool) (ht : (x.name.toList == n.toList) = t) (w : World) (hg : g < w.heap.size) (hc : w.cell? ⟨g, 0, none⟩ = some (.string n)) :
    Gives Try.prog 157 #[tbV x A k B j, .pointer (some ⟨g, 0, none⟩)] w (.bool t) := by
  unfold Gives tbV
  go_enter Try.func157, Try.ntmps157
  go_wp2
  go_ret
  exact ⟨rfl, by (show Grew _ _; repeat (first | exact Grew.refl _ | refine Grew.alloc ?_ _ | refine Grew.drew ?_ | refine Grew.more ?_ _))⟩
theorem column_is (x : Cl) (g : Nat) (n : ByteArray) (t : Bool) (ht : (x.name.toList == n.toList) = t) (w : World) (hg : g < w.heap.size) (hc : w.cell? ⟨g, 0, none⟩ = some (.string n)) :
    Gives Try.prog 160 #[clV x, .pointer (some ⟨g, 0, none⟩)] w (.bool t) := by
  unfold Gives clV
  go_enter Try.func160, Try.ntmps160
  go_wp2
  go_ret
  exact ⟨rfl, by (show Grew _ _; repeat (first | exact Grew.refl _ | refine Grew.alloc ?_ _ | refine Grew.drew ?_ | refine Grew.more ?_ _))⟩
def IdxAt (w : World) (ns : List ByteArray) (n : ByteArray) (i : Value) (wr : World) : Prop := ∃ j : Nat, j ≤ ns.length ∧ i = .int .i64 j ∧ Grew w wr ∧ ∀ k (hk : k < ns.length), k < j → ¬ ns[k] = n
def IdxF (w : World) (ns : List ByteArray) (n : ByteArray) (e : Ending) (w' : World) : Prop := ∃ z : Int, e = .returned (.int .i64 z) ∧ Idx ns n z ∧ Grew w w'
theorem txt_ext {a b : ByteArray} (h : a.toList = b.toList) : a = b := by
  rw [ByteArray.toList_eq, ByteArray.toList_eq] at h
  obtain ⟨⟨a⟩⟩ := a
  obtain ⟨⟨b⟩⟩ := b
  simp only at h
  rw [h]
theorem bytes_toList {a b : ByteArray} : (a.toList == b.toList) = true ↔ a = b := by
  rw [beq_iff_eq]
  exact ⟨txt_ext, fun h => by rw [h]⟩
set_option maxHeartbeats 1000000 in
theorem idx_tables (l : List Tb) (m : Nat) (hm : l.length = m) (hs : m ≤ maxLen) (n : ByteArray) (A : Option Addr) (k g : Nat) (w : World) (ra : TbsR (PRow w) A l) (hg : g < w.heap.size) (hc : w.cell? ⟨g, 0, none⟩ = some (.string n)) :
    Calls Try.prog 156 #[.slice A m k, .func (.func 157) #[] #[.pointer (some ⟨g, 0, none⟩)]] w (IdxF w (l.map Tb.name) n) := by
  have RA := Lib.hid ra
  have HM := Lib.hid hm
  have HC := Lib.hid hc
  clear ra hm hc
  unfold maxLen at hs
  go_enter Try.func156, Try.ntmps156
  go_wp2
  go_loopw [8] (fun i wr => IdxAt w (l.map Tb.name) n i wr) (fun i _ => m - (intOf i).toNat)
  case atStart => exact ⟨0, Nat.zero_le _, rfl, Grew.refl w, fun k hk h => absurd h (by omega)⟩
  case round =>
    obtain ⟨j, hj, rfl, hgr, hk⟩ := hrel
    rw [List.length_map, HM.out] at hj
    have HG := Lib.hid hgr
    have HK := Lib.hid hk
    clear hgr hk
    by_cases h : j < m
    · have h1 : j < l.length := by rw [HM.out]; exact h
      obtain ⟨b, o, C, k2, B, j2, rfl, _, _, _, _, ⟨p0, a0, a1, a2⟩⟩ := tbsR_at (RA.out.grew HG.out) h1
      have hn : (l.map Tb.name)[j]'(by simpa using h1) = l[j].name := by simp
      have HN := Lib.hid hn
      clear hn
      obtain ⟨t, ht⟩ : ∃ t, (l[j].name.toList == n.toList) = t := ⟨_, rfl⟩
      have hF := named_is l[j] C B k2 j2 g n t ht wr (Nat.lt_of_lt_of_le hg HG.out.size) (by rw [HG.out.cell hg]; exact HC.out)
      have HT := Lib.hid ht
      have HF := Lib.hid hF
      clear hF ht
      unfold tbV at HF
      generalize l[j] = x at *
      cases t
      rotate_left
      · go_wp2_with (go_at_call 157; (with_reducible refine HF.out.grows.mono ?_); rintro e w2 ⟨rfl, hg2⟩; have HG2 := Lib.hid (HG.out.trans hg2); clear hg2)
        go_ret
        refine ⟨j, rfl, Or.inl ⟨j, rfl, by rw [List.length_map]; exact h1, ?_, fun i hi => HK.out i _ hi⟩, HG2.out⟩
        rw [HN.out]
        exact bytes_toList.1 HT.out
      · go_wp2_with (go_at_call 157; (with_reducible refine HF.out.grows.mono ?_); rintro e w2 ⟨rfl, hg2⟩; have HG2 := Lib.hid (HG.out.trans hg2); clear hg2)
        refine ⟨⟨j + 1, by rw [List.length_map]; omega, by go_num, HG2.out, fun i hi hij => ?_⟩, by simp only [intOf]; omega⟩
        rcases Nat.lt_or_ge i j with h3 | h3
        · exact HK.out i hi h3
        · have h4 : i = j := by omega
          subst h4
          intro he
          rw [HN.out] at he
          have := bytes_toList.2 he
          rw [HT.out] at this
          cases this
    · obtain rfl : j = m := by omega
      go_wp2
      go_ret
      refine ⟨-1, rfl, Or.inr ⟨rfl, fun x hx => ?_⟩, HG.out⟩
      obtain ⟨i, hi, rfl⟩ := List.getElem_of_mem hx
      exact HK.out i hi (by rw [List.length_map, HM.out] at hi; exact hi)
set_option maxHeartbeats 1000000 in
theorem idx_columns (l : List Cl) (m : Nat) (hm : l.length = m) (hs : m ≤ maxLen) (n : ByteArray) (A : Option Addr) (k g : Nat) (w : World) (ra : ClsR (PRow w) A l) (hg : g < w.heap.size) (hc : w.cell? ⟨g, 0, none⟩ = some (.string n)) :
    Calls Try.prog 159 #[.slice A m k, .func (.func 160) #[] #[.pointer (some ⟨g, 0, none⟩)]] w (IdxF w (l.map Cl.name) n) := by
  have RA := Lib.hid ra
  have HM := Lib.hid hm
  have HC := Lib.hid hc
  clear ra hm hc
  unfold maxLen at hs
  go_enter Try.func159, Try.ntmps159
  go_wp2
  go_loopw [8] (fun i wr => IdxAt w (l.map Cl.name) n i wr) (fun i _ => m - (intOf i).toNat)
  case atStart => exact ⟨0, Nat.zero_le _, rfl, Grew.refl w, fun k hk h => absurd h (by omega)⟩
  case round =>
    obtain ⟨j, hj, rfl, hgr, hk⟩ := hrel
    rw [List.length_map, HM.out] at hj
    have HG := Lib.hid hgr
    have HK := Lib.hid hk
    clear hgr hk
    by_cases h : j < m
    · have h1 : j < l.length := by rw [HM.out]; exact h
      obtain ⟨b, o, rfl, p0, a0, a1⟩ := clsR_at (RA.out.grew HG.out) h1
      have hn : (l.map Cl.name)[j]'(by simpa using h1) = l[j].name := by simp
      have HN := Lib.hid hn
      clear hn
      obtain ⟨t, ht⟩ : ∃ t, (l[j].name.toList == n.toList) = t := ⟨_, rfl⟩
      have hF := column_is l[j] g n t ht wr (Nat.lt_of_lt_of_le hg HG.out.size) (by rw [HG.out.cell hg]; exact HC.out)
      have HT := Lib.hid ht
      have HF := Lib.hid hF
      clear hF ht
      unfold clV at HF
      generalize l[j] = x at *
      cases t
      rotate_left
      · go_wp2_with (go_at_call 160; (with_reducible refine HF.out.grows.mono ?_); rintro e w2 ⟨rfl, hg2⟩; have HG2 := Lib.hid (HG.out.trans hg2); clear hg2)
        go_ret
        refine ⟨j, rfl, Or.inl ⟨j, rfl, by rw [List.length_map]; exact h1, ?_, fun i hi => HK.out i _ hi⟩, HG2.out⟩
        rw [HN.out]
        exact bytes_toList.1 HT.out
      · go_wp2_with (go_at_call 160; (with_reducible refine HF.out.grows.mono ?_); rintro e w2 ⟨rfl, hg2⟩; have HG2 := Lib.hid (HG.out.trans hg2); clear hg2)
        refine ⟨⟨j + 1, by rw [List.length_map]; omega, by go_num, HG2.out, fun i hi hij => ?_⟩, by simp only [intOf]; omega⟩
        rcases Nat.lt_or_ge i j with h3 | h3
        · exact HK.out i hi h3
        · have h4 : i = j := by omega
          subst h4
          intro he
          rw [HN.out] at he
          have := bytes_toList.2 he
          rw [HT.out] at this
          cases this
    · obtain rfl : j = m := by omega
      go_wp2
      go_ret
      refine ⟨-1, rfl, Or.inr ⟨rfl, fun x hx => ?_⟩, HG.out⟩
      obtain ⟨i, hi, rfl⟩ := List.getElem_of_mem hx
      exact HK.out i hi (by rw [List.length_map, HM.out] at hi; exact hi)
theorem named_any (l : List Tb) (m : Nat) (hm : l.length = m) (hs : m ≤ maxLen) (n : ByteArray) (A : Option Addr) (k : Nat) (w : World) (ra : TbsR (PRow w) A l) :
    Calls Try.prog 126 #[.slice A m k, .string n] w (IdxF w (l.map Tb.name) n) := by
  have HI := Lib.hid (fun (W : World) (hW : Grew w W) (g : Nat) (hg : g < W.heap.size) (hc : W.cell? ⟨g, 0, none⟩ = some (.string n)) => idx_tables l m hm hs n A k g W (ra.grew hW) hg hc)
  clear ra hm hs
  go_enter Try.func126, Try.ntmps126
  go_wp2_with fail
  refine (HI.out _ ((Grew.refl w).alloc _) _ (by simp) (by simp [go_sem])).mono ?_
  rintro e w2 ⟨z, rfl, hz, hg2⟩
  have HZ := Lib.hid hz
  have HG := Lib.hid (((Grew.refl w).alloc _).trans hg2)
  clear hz hg2
  go_wp2
  go_ret
  exact ⟨z, rfl, HZ.out, HG.out⟩
theorem column_any (l : List Cl) (m : Nat) (hm : l.length = m) (hs : m ≤ maxLen) (n : ByteArray) (A : Option Addr) (k : Nat) (w : World) (ra : ClsR (PRow w) A l) :
    Calls Try.prog 128 #[.slice A m k, .string n] w (IdxF w (l.map Cl.name) n) := by
  have HI := Lib.hid (fun (W : World) (hW : Grew w W) (g : Nat) (hg : g < W.heap.size) (hc : W.cell? ⟨g, 0, none⟩ = some (.string n)) => idx_columns l m hm hs n A k g W (ra.grew hW) hg hc)
  clear ra hm hs
  go_enter Try.func128, Try.ntmps128
  go_wp2_with fail
  refine (HI.out _ ((Grew.refl w).alloc _) _ (by simp) (by simp [go_sem])).mono ?_
  rintro e w2 ⟨z, rfl, hz, hg2⟩
  have HZ := Lib.hid hz
  have HG := Lib.hid (((Grew.refl w).alloc _).trans hg2)
  clear hz hg2
  go_wp2
  go_ret
  exact ⟨z, rfl, HZ.out, HG.out⟩
end Go.Proofs.Ytcokhgomibimcaa
