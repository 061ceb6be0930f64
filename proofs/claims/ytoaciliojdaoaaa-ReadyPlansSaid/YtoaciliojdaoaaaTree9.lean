/- Layer 8: the columns of an expression; the page's example. Condition: expressions that lie in memory that is there. -/
import Derived.Test.YtoaciliojdaoaaaTree8
namespace Go.Proofs.Ytoaciliojdaoaaa
open Go.RowKit
attribute [local go_sem] more_cell more_frozen more_more more_setCell more_of_drew more_of_drewN lt_more le_more past_cell past_cell2 past_frozen past_frozen2 past_setCell past_setCell2 mid_cell mid_frozen mid_setCell
attribute [local go_sem ↓] Go.wp_at_zero Go.wp_at_succ

def GathAt (u : World) (base g c : Nat) (l0 l : List Ex) (i : Value) (wr : World) : Prop := ∃ j : Nat, j ≤ l.length ∧ i = .int .i64 j ∧ Gath u wr base g c (l0 ++ colsE (l.take j))
set_option maxHeartbeats 2000000 in
theorem colsc_ex (n : Nat) : ∀ (x : Ex), SizeOf.sizeOf x < n → ∀ (A : Option Addr) (k g c base : Nat) (l0 : List Ex) (u w : World), l0.length + x.nodes ≤ 1000000 → u.heap.size ≤ c → c < base → g < base → g ≠ c → ExsR (PRow u) A x.l → Gath u w base g c l0 →
    Calls Try.prog 90 #[exV x A k, .pointer (some ⟨c, 0, none⟩), .pointer (some ⟨g, 0, none⟩)] w (GathR u base g c (l0 ++ x.cols)) := by
  induction n with
  | zero => intro x hn; omega
  | succ n ih =>
    intro x hn A k g c base l0 u w hm hu hcb hgb hgc ra hg
    by_cases hop : x.op = 15
    · rw [cols_in hop]
      obtain ⟨op, tab, name, tt, cc, vk, vi, vs, l⟩ := x
      simp only [Ex.op] at hop
      subst hop
      exact colsc_in tt cc vk vi tab name vs l l0 A k g c base u w hu hcb hgb hgc (by omega) ra hg
    · rw [cols_out hop]
      have hpart : ∀ y ∈ x.l, SizeOf.sizeOf y < n := fun y hy => by have := x.part_lt hy; omega
      have hx : x.nodes = 1 + nodesL x.l := nodes_eq x
      rw [hx] at hm
      have hNL := nodesL_len x.l
      have hcl : ∀ j, (colsE (x.l.take j)).length ≤ nodesL (x.l.take j) := fun j => by
        have : ∀ l : List Ex, (colsE l).length ≤ nodesL l := fun l => by
          induction l with
          | nil => simp [colsE]
          | cons y l ih => simp only [colsE, nodesL, List.length_append]; have := cols_len y; omega
        exact this _
      obtain ⟨op, tab, name, tt, cc, vk, vi, vs, l⟩ := x
      simp only [Ex.l, Ex.op] at ra hpart hm hNL hcl hop ⊢
      have RA := Lib.hid ra
      have HI := Lib.hid (fun (y : Ex) (hy : y ∈ l) => ih y (hpart y hy))
      have HG := Lib.hid hg
      have HCl := Lib.hid hcl
      have e15 : (op == 15) = false := by rw [beq_eq_false_iff_ne]; exact hop
      obtain ⟨fin, hfin⟩ : ∃ fin, l0 ++ colsE l = fin := ⟨_, rfl⟩
      have HF := Lib.hid hfin
      rw [hfin]
      clear ra ih hpart hn hx hg hcl hfin hop
      unfold exV
      simp only [Ex.op, Ex.tab, Ex.name, Ex.t, Ex.c, Ex.vk, Ex.vi, Ex.vs, Ex.l]
      go_enter Try.func90, Try.ntmps90
      go_wp2
      go_loopw [18] (fun i wr => GathAt u base g c l0 l i wr) (fun i _ => l.length - (intOf i).toNat)
      case atStart => exact ⟨0, Nat.zero_le _, rfl, by simpa [colsE] using HG.out.more ((Grew.refl w).alloc _)⟩
      case round =>
        obtain ⟨j, hj, rfl, hg⟩ := hrel
        have HG := Lib.hid hg
        have c1 : wr.cell? ⟨g, 0, none⟩ = some (.func (.func 90) #[] #[.pointer (some ⟨c, 0, none⟩), .pointer (some ⟨g, 0, none⟩)]) := hg.self.cell 0
        have hgl : g < wr.heap.size := hg.self.lt
        clear hg
        by_cases h : j < l.length
        · obtain ⟨ba, oa, PA, ka, rfl, hpa, h9⟩ := exsR_nine RA.out h
          have HN := Lib.hid (colsE_take h)
          have hbd : (l0 ++ colsE (l.take j)).length + l[j].nodes ≤ 1000000 := by
            have h1 := HCl.out j
            have h2 := nodesL_take h
            have e : nodesL l = nodesL (l.take (j + 1)) + nodesL (l.drop (j + 1)) := by rw [← nodesL_append, List.take_append_drop]
            rw [List.length_append]
            omega
          have HC : Hid (∀ W, Grew wr W → Calls Try.prog 90 #[exV l[j] PA ka, .pointer (some ⟨c, 0, none⟩), .pointer (some ⟨g, 0, none⟩)] W (GathR u base g c ((l0 ++ colsE (l.take j)) ++ l[j].cols))) := Lib.hid fun W hW =>
            HI.out _ (List.getElem_mem h) _ _ g c base _ u W hbd hu hcb hgb hgc hpa (HG.out.more hW)
          obtain ⟨p0, a0, a1, a2, a3, a4, a5, a6, a7, a8⟩ := h9.grew HG.out.grew
          have hll : l.length ≤ 1000000 := by omega
          clear h9 hpa HI hbd hNL hm HCl HF
          generalize l[j] = y at *
          unfold exV at HC
          go_wp2_with (first | (go_at_call 90; (with_reducible refine (HC.out _ ((Grew.refl wr).alloc _)).mono ?_); rintro e w2 ⟨rfl, hg2⟩; have HG2 := Lib.hid hg2; clear hg2))
          exact ⟨⟨j + 1, by omega, by go_num, by rw [HN.out, ← List.append_assoc]; exact HG2.out⟩, by simp only [intOf]; omega⟩
        · obtain rfl : j = l.length := by omega
          have HD : Hid (Gath u wr base g c fin) := Lib.hid (by have := HG.out; rw [List.take_length, HF.out] at this; exact this)
          clear HG HF HI HCl
          go_wp2
          first | go_end0 | skip
          exact ⟨rfl, HD.out⟩
/-- Expressions are handed back. -/
def ExsF (w : World) (l : List Ex) (e : Ending) (w' : World) : Prop := ∃ A k, e = .returned (.slice A l.length k) ∧ Grew w w' ∧ ExsR (PRow w') A l
set_option maxHeartbeats 1000000 in
theorem cols_ex (x : Ex) (A : Option Addr) (k : Nat) (hx : x.nodes ≤ 1000000) (w : World) (ra : ExsR (PRow w) A x.l) : Calls Try.prog 85 #[exV x A k] w (ExsF w x.cols) := by
  have HC : Hid (∀ W g c base, w.heap.size ≤ c → c < base → g < base → g ≠ c → Gath w W base g c [] → Calls Try.prog 90 #[exV x A k, .pointer (some ⟨c, 0, none⟩), .pointer (some ⟨g, 0, none⟩)] W (GathR w base g c ([] ++ x.cols))) := Lib.hid fun W g c base hc hcb hgb hgc h1 =>
    colsc_ex _ x (Nat.lt_succ_self _) A k g c base [] w W (by simpa using hx) hc hcb hgb hgc ra h1
  clear ra hx
  generalize x.cols = n at *
  unfold exV at *
  go_enter Try.func85, Try.ntmps85
  go_wp2_with fail
  refine (HC.out _ _ _ (w.heap.size + 1 + 1 + 1) (by simp) (by omega) (by omega) (by omega) ⟨((Grew.refl w).alloc _).alloc _ |>.alloc _, Blok.new _ _ _ _ (by simp), ⟨none, 0, (Blok.new _ _ _ _ (by simp)).alloc _, [], ListR.nil, own_none _ _ _ _⟩, by simp⟩).mono ?_
  rintro e w2 ⟨rfl, hg2⟩
  obtain ⟨A2, k2, hb2, ho2⟩ := hg2.out
  rw [List.nil_append] at hb2 ho2
  have HG2 := Lib.hid hg2.grew
  have HX := Lib.hid (ho2.exs hg2.grew)
  have c0 := hb2.cell 0
  have hl := hb2.lt
  simp at c0
  clear hg2 hb2 ho2
  go_wp2
  go_ret
  exact ⟨A2, k2, rfl, HG2.out, HX.out⟩
end Go.Proofs.Ytoaciliojdaoaaa
