/- Numbers in a row of one's own: cloned, cut, sorted; what is said of one column. Condition: no more than a million numbers. -/
import Derived.Test.YtdohfbpjmnhhmaaStat2
import Derived.Test.YtdohfbpjmnhhmaaHist5
import Derived.Test.YtdohfbpjmnhhmaaNest
import Derived.WalkSpells
namespace Go.Proofs.Ytdohfbpjmnhhmaa
open Go.RowKit
attribute [local go_sem] more_cell more_frozen more_more more_setCell more_of_drew more_of_drewN lt_more le_more past_cell past_cell2 past_frozen past_frozen2 past_setCell past_setCell2 mid_cell mid_frozen mid_setCell
attribute [local go_sem ↓] Go.wp_at_zero Go.wp_at_succ
@[local go_sem] theorem eql_nilI (w : World) (a : Option Addr) (n c : Nat) : (binOp .eql 38 (.slice a n c) (.slice none 0 0)).run Try.prog w = .ok (.bool a.isNone) w := Lib.run_eql_slice_nil w _ _ a n c 0 0 Try.underlying38

/-- Numbers that come back in a row of one's own, which may be written. -/
def OwnI (w : World) (l : List Int) (e : Ending) (w' : World) : Prop := ∃ A k, e = .returned (.slice A l.length k) ∧ Grew w w' ∧ w'.ownsRow w.heap.size 3 1 (.slice A l.length k) l.length (iV l)
theorem iV_len (l : List Int) : (iV l).length = l.length := by simp [iV]
theorem clone_ints (l : List Int) (hl : l.length ≤ 1000000) (A : Option Addr) (k : Nat) (w : World) (ra : Row w A (iV l)) : Calls Try.prog 32 #[.slice A l.length k] w (OwnI w l) := by
  have HR := Lib.hid ra
  clear ra
  rcases A with _ | a
  · have hxs : l = [] := by
      rcases HR.out with h | ⟨b, o, h, _⟩
      · simpa [iV] using h
      · cases h
    subst hxs
    go_enter Try.func32, Try.ntmps32
    go_wp2
    go_ret
    exact ⟨none, 0, rfl, Grew.refl w, own_none _ _ _ _⟩
  · have HL := Lib.hid (iV_len l)
    have H1 := Lib.hid (iV_one l)
    go_enter Try.func32, Try.ntmps32
    go_wp2_with (at_builtin; refine wpList_app rfl _ _ 38 3 rfl w (.int .i64 0) 8 Try.underlying38 infoI rfl (by decide) _ 0 [] rfl (own_empty w _ _ _ _ rfl (Nat.le_refl _)) _ l.length k (iV l) rfl HL.out (row_alloc HR.out _) H1.out (by omega) ((Grew.refl w).alloc _) ?_; intro A' c' w' ho' _ hg' _ _; have HO := Lib.hid ho'; have HG := Lib.hid hg'; clear ho' hg')
    go_ret
    refine ⟨A', c', by first | rfl | rw [Nat.zero_add], HG.out, ?_⟩
    have h := HO.out
    rw [List.nil_append, Nat.zero_add] at h
    exact h
theorem own_cut {w : World} {base n c : Nat} {e : TypeId} {A : Option Addr} {xs : List Value} (h : w.ownsRow base e 1 (.slice A n c) n xs) {k : Nat} (hk : k ≤ n) : w.ownsRow base e 1 (.slice A k c) k (xs.take k) := by
  have hl := h.1
  refine ⟨by rw [List.length_take, hl]; omega, ?_⟩
  rcases h.2 with ⟨h1, h2⟩ | ⟨g, cap, cur, h1, h2, h3, h4, h5, h6, h7⟩
  · injection h1 with h1 h1' h1''
    subst h1 h1''
    obtain rfl : k = 0 := by omega
    exact Or.inl ⟨rfl, rfl⟩
  · injection h1 with h1 _ h1''
    subst h1 h1''
    refine Or.inr ⟨g, c, cur, rfl, h2, h3, by omega, h5, h6, ?_⟩
    rw [← h7, List.take_take]
    congr 1
    omega
/-- Numbers of one's own are sorted where they lie. -/
theorem sort_own (l : List Int) (hz : l.length ≤ 1000000) (A : Option Addr) (c base : Nat) (w : World) (ho : w.ownsRow base 3 1 (.slice A l.length c) l.length (iV l)) :
    Calls Try.prog 28 #[.slice A l.length c] w fun e w' => e = .returned (.tuple #[]) ∧ w'.ownsRow base 3 1 (.slice A l.length c) l.length (iV (sortI l)) ∧ w.grownBy w' (Value.slice A l.length c).ownBlock := by
  have hl : (sortI l).length = l.length := sortI_len l
  by_cases h0 : l.length = 0
  · have h00 : l = [] := List.eq_nil_of_length_eq_zero h0
    subst h00
    refine (Try.slices_Sort_int_none A c w).mono ?_
    rintro e w' ⟨rfl, rfl⟩
    exact ⟨rfl, by rw [sortI_nil]; exact ho, World.grownBy.refl _ _⟩
  rcases ho.2 with ⟨h1, h2⟩ | ⟨g, cap, cur, h1, hbase, hgb, r1, r2, r3, r4⟩
  · omega
  · injection h1 with h1 _ h1''
    subst h1 h1''
    have hH : Go.Sort.Holds (Value.int .i64) w g 0 l.toArray := holds_of_blockI hgb (by simpa [iV] using r4)
    have hgl : g < w.heap.size := (Array.getElem?_eq_some_iff.1 hgb).1
    refine (Try.slices_Sort_int g 0 c l w hH hgl (by omega)).mono ?_
    rintro e w' ⟨rfl, n, os, rfl⟩
    exact ⟨rfl, ownsRow_sortedI (ts := sortI l) hl hbase hgb r1 r2 r3, grownBy_sortedI _⟩

def colI (l : List Cst) (c : Int) : Cst := if 0 ≤ c then l.getD c.toNat default else default
/-- What is said of a column, with marks of one's own. -/
def ColF (w : World) (x : Cst) (e : Ending) (w' : World) : Prop := ∃ B j, e = .returned (.agg #[.int .i64 x.u, .int .i64 x.n, .slice B x.m.length j]) ∧ Grew w w' ∧ w'.ownsRow w.heap.size 3 1 (.slice B x.m.length j) x.m.length (iV x.m)
set_option maxHeartbeats 2000000 in
set_option maxRecDepth 100000 in
theorem col_any (r : Int) (l : List Cst) (A : Option Addr) (k : Nat) (c : Int) (hm : ∀ x ∈ l, x.m.length ≤ 1000000) (w : World) (ra : CstsR (PRow w) A l) :
    Calls Try.prog 16 #[.agg #[.int .i64 r, .slice A l.length k], .int .i64 c] w (ColF w (colI l c)) := by
  by_cases hin : 0 ≤ c ∧ c < l.length
  · obtain ⟨i, rfl⟩ : ∃ i : Nat, c = i := ⟨c.toNat, by omega⟩
    have hi : i < l.length := by omega
    have he : colI l i = l[i] := by
      unfold colI
      rw [if_pos (by omega), Int.toNat_natCast, List.getD_eq_getElem?_getD, List.getElem?_eq_getElem hi]
      rfl
    rw [he]
    obtain ⟨b, o, B, j, rfl, hb, c0, c1, c2, hj, hr⟩ := cstsR_at ra hi
    have HC : Hid (∀ W, Grew w W → Calls Try.prog 32 #[.slice B l[i].m.length j] W (OwnI W l[i].m)) := Lib.hid fun W hW => clone_ints l[i].m (hm _ (List.getElem_mem hi)) B j W (hr.grew hW)
    have h1 : (0 : Int) ≤ i := by omega
    have h2 : (i : Int) < l.length := by omega
    clear ra hm he hr hin
    generalize l[i] = x at *
    obtain ⟨u, n, m⟩ := x
    simp only at *
    go_enter Try.func16, Try.ntmps16
    go_wp2_with fail
    refine (HC.out _ ((((Grew.refl w).alloc _).alloc _).alloc _)).mono ?_
    rintro e w2 ⟨B2, j2, rfl, hg2, ho2⟩
    have b4 : Blok w2 (w.heap.size + 1) 40 #[.int .i64 0, .int .i64 0, .slice none 0 0] := ((Blok.new _ _ _ _ (by simp)).alloc _).grew hg2
    have b5 : Blok w2 (w.heap.size + 2) 40 #[.int .i64 u, .int .i64 n, .slice B m.length j] := (Blok.new _ _ _ _ (by simp)).grew hg2
    have d0 := b5.cell 0
    have d1 := b5.cell 1
    have d2 := b5.cell 2
    have dl := b5.lt
    have y2 := b5.thaw 2
    have el := b4.lt
    have e0 := b4.cell 0
    have e1 := b4.cell 1
    have e2 := b4.cell 2
    have z0 := b4.thaw 0
    have z1 := b4.thaw 1
    have z2 := b4.thaw 2
    simp at d0 d1 d2 e0 e1 e2
    have HG2 : Hid (Grew w w2) := Lib.hid (((((Grew.refl w).alloc _).alloc _).alloc _).trans hg2)
    have HB4 := Lib.hid b4
    have HO2 : Hid (w2.ownsRow (w.heap.size + 3) 3 1 (.slice B2 m.length j2) m.length (iV m)) := Lib.hid (by simpa using ho2)
    clear b4 b5 hg2 ho2 HC
    go_wp2
    have bf := (((HB4.out.far (p := ⟨w.heap.size + 2, 2, none⟩) (by simp) (.slice B2 m.length j2)).set 0 (.int .i64 u)).set 1 (.int .i64 n)).set 2 (.slice B2 m.length j2)
    have q0 := bf.cell 0
    have q1 := bf.cell 1
    have q2 := bf.cell 2
    simp at q0 q1 q2
    refine bodyPost_ret (v := .agg #[.int .i64 u, .int .i64 n, .slice B2 m.length j2]) (by simp [results, Try.results16, go_sem, q0, q1, q2]) rfl ⟨B2, j2, rfl, ?_, ?_⟩
    · exact Grew.setCell (Grew.setCell (Grew.setCell (Grew.setCell HG2.out (by show w.heap.size ≤ w.heap.size + 2; omega) _) (Nat.le_succ _) _) (Nat.le_succ _) _) (Nat.le_succ _) _
    · refine own_le (ownsRow_setCell_below (ownsRow_setCell_below (ownsRow_setCell_below (ownsRow_setCell_below HO2.out (a := ⟨w.heap.size + 2, 2, none⟩) (by simp) _) (a := ⟨w.heap.size + 1, 0, none⟩) (by simp) _) (a := ⟨w.heap.size + 1, 1, none⟩) (by simp) _) (a := ⟨w.heap.size + 1, 2, none⟩) (by simp) _) (by omega)
  · have he : colI l c = default := by
      unfold colI
      split
      · rw [List.getD_eq_getElem?_getD, List.getElem?_eq_none (by omega)]
        rfl
      · rfl
    rw [he]
    clear he ra hm
    show Calls _ _ _ _ (ColF w ⟨0, 0, []⟩)
    rcases Int.lt_or_le c 0 with h | h
    · go_enter Try.func16, Try.ntmps16
      go_wp2
      exact bodyPost_ret (v := .agg #[.int .i64 0, .int .i64 0, .slice none 0 0]) (by simp [results, Try.results16, go_sem]) rfl ⟨none, 0, rfl, by (show Grew _ _; repeat (first | exact Grew.refl _ | refine Grew.alloc ?_ _ | refine Grew.drew ?_ | refine Grew.more ?_ _)), own_none _ _ _ _⟩
    · have h2 : (l.length : Int) ≤ c := by omega
      go_enter Try.func16, Try.ntmps16
      go_wp2
      exact bodyPost_ret (v := .agg #[.int .i64 0, .int .i64 0, .slice none 0 0]) (by simp [results, Try.results16, go_sem]) rfl ⟨none, 0, rfl, by (show Grew _ _; repeat (first | exact Grew.refl _ | refine Grew.alloc ?_ _ | refine Grew.drew ?_ | refine Grew.more ?_ _)), own_none _ _ _ _⟩
end Go.Proofs.Ytdohfbpjmnhhmaa
