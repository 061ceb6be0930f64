/- Layer 6: classes behind joins, and the document's own beside them. Condition: no more than 60 pairs, which lie in memory that is there. -/
import Derived.Test.YtchogpdfdpbpfaaUf5
import Derived.Test.YtchogpdfdpbpfaaFrame4
namespace Go.Proofs.Ytchogpdfdpbpfaa
open Go.RowKit
attribute [local go_sem] more_cell more_frozen more_more more_setCell more_of_drew more_of_drewN lt_more le_more past_cell past_cell2 past_frozen past_frozen2 past_setCell past_setCell2 mid_cell mid_frozen mid_setCell
attribute [local go_sem ↓] Go.wp_at_zero Go.wp_at_succ

/-- The cells of pairs. -/
def pairsC (l : List (Int × Int)) : List (List Value) := l.map fun p => [.int .i64 p.1, .int .i64 p.2]
theorem pairs_at {w : World} {A : Option Addr} {l : List (Int × Int)} {k : Nat} (h : Grid w A 2 (pairsC l)) (hk : k < l.length) :
    ∃ b o, A = some ⟨b, o, none⟩ ∧ b < w.heap.size ∧ w.cell? ⟨b, o + k * 2, none⟩ = some (.int .i64 l[k].1) ∧ w.cell? ⟨b, o + k * 2 + 1, none⟩ = some (.int .i64 l[k].2) := by
  obtain ⟨b, o, hA, hb, hc⟩ := h.at_ (k := k) (by simpa [pairsC] using hk)
  refine ⟨b, o, hA, hb, ?_, ?_⟩
  · have := hc 0 (.int .i64 l[k].1) (by simp [pairsC])
    simpa using this
  · have := hc 1 (.int .i64 l[k].2) (by simp [pairsC])
    rw [Nat.add_assoc]
    exact this
theorem pairs_cells {u w : World} {b o : Nat} {l : List (Int × Int)} {k : Nat} {x y : Int} (h : Grid u (some ⟨b, o, none⟩) 2 (pairsC l)) (hg : Grew u w) (hk : k < l.length) (hx : l[k].1 = x) (hy : l[k].2 = y) :
    b < w.heap.size ∧ w.cell? ⟨b, o + k * 2, none⟩ = some (.int .i64 x) ∧ w.cell? ⟨b, o + k * 2 + 1, none⟩ = some (.int .i64 y) := by
  obtain ⟨b', o', hA, hb, c0, c1⟩ := pairs_at (h.grew hg) hk
  injection hA with hA
  injection hA with e1 e2 _
  subst e1 e2 hx hy
  exact ⟨hb, c0, c1⟩
theorem pairs_some {u : World} {P : Option Addr} {l : List (Int × Int)} {k : Nat} (h : Grid u P 2 (pairsC l)) (hk : k < l.length) : ∃ b o, P = some ⟨b, o, none⟩ := by
  obtain ⟨b, o, hA, _⟩ := pairs_at h hk
  exact ⟨b, o, hA⟩
/-- Each number's class behind the joins. -/
def foldR (n : Nat) (l : List (Int × Int)) : Nat → Nat := l.foldl (fun r p => joinI n r p.1 p.2) id
theorem foldR_take (n : Nat) (l : List (Int × Int)) (k : Nat) (h : k < l.length) : foldR n (l.take (k + 1)) = joinI n (foldR n (l.take k)) l[k].1 l[k].2 := by
  rw [List.take_succ_eq_append_getElem h]
  unfold foldR
  rw [List.foldl_append]
  rfl
/-- Classes, and the document's own beside them. -/
structure Both (u : World) (g h n : Nat) (r : Nat → Nat) (A : Option Addr) (w : World) : Prop where
  cls : UfS u g h n r w
  row : Row w A (numsL n r)
  off : Off A g h
theorem Both.on {u w w' : World} {g h n : Nat} {r : Nat → Nat} {A : Option Addr} (s : Both u g h n r A w) (k : Grew w w') : Both u g h n r A w' := ⟨s.cls.on k, s.row.grew k, s.off⟩
/-- Behind the document's own join, in a world in which the classes have been joined. -/
theorem rjoin_both (a b : Int) (c : Nat) (u w : World) (g h n : Nat) (r r' : Nat → Nat) (A : Option Addr) (s : UfS u g h n r' w) (hr : Row w A (numsL n r)) (ho : Off A g h) (hr' : joinI n r a b = r') :
    Calls Try.prog 23 #[.slice A n c, .int .i64 a, .int .i64 b] w fun e w' => ∃ A' c', e = .returned (.slice A' n c') ∧ Both u g h n r' A' w' := by
  subst hr'
  have hn := s.small
  have hlt := s.lt
  have hend : ∀ e w', Nums w A n (joinI n r a b) e w' → ∃ A' c', e = .returned (.slice A' n c') ∧ Both u g h n (joinI n r a b) A' w' := by
    rintro e w' ⟨A', c', he, hg, hrow, hor⟩
    refine ⟨A', c', he, s.on hg, hrow, ?_⟩
    rcases hor with rfl | hp
    · exact ho
    · intro p hp'
      have := hp p hp'
      omega
  by_cases hi : inB n a b
  · have hi' := hi
    unfold inB at hi'
    have e1 : joinI n r a b = joinR r (r a.toNat) (r b.toNat) := if_pos hi
    obtain ⟨a', rfl⟩ := Int.eq_ofNat_of_zero_le hi'.1
    obtain ⟨b', rfl⟩ := Int.eq_ofNat_of_zero_le hi'.2.1
    rw [e1] at hend ⊢
    rw [Int.toNat_natCast, Int.toNat_natCast] at hend ⊢
    exact (rjoin_yes A n c r a' b' _ _ w hr (by omega) (by omega) (by omega) rfl rfl).mono hend
  · have e1 : joinI n r a b = r := if_neg hi
    rw [e1] at hend ⊢
    exact (rjoin_no A n c r a b w hr (by unfold inB at hi; omega)).mono hend
theorem rnew_both (n : Nat) (u w : World) (g h : Nat) (s : UfS u g h n id w) : Calls Try.prog 22 #[.int .i64 n] w fun e w' => ∃ A c, e = .returned (.slice A n c) ∧ Both u g h n id A w' := by
  have hn := s.small
  have hlt := s.lt
  refine (rnew_any n (by omega) w).mono ?_
  rintro e w' ⟨A', c', he, hg, hrow, hor⟩
  refine ⟨A', c', he, s.on hg, hrow, ?_⟩
  rcases hor with rfl | hp
  · intro p hp'; cases hp'
  · intro p hp'
    have := hp p hp'
    omega
def PlayAt (u : World) (g h n : Nat) (l : List (Int × Int)) (R i : Value) (wr : World) : Prop :=
  ∃ (j : Nat) (A : Option Addr) (c : Nat), j ≤ l.length ∧ i = .int .i64 j ∧ R = .slice A n c ∧ Both u g h n (foldR n (l.take j)) A wr
/-- What play tells. -/
def Played (u : World) (n : Nat) (l : List (Int × Int)) (e : Ending) (w' : World) : Prop :=
  ∃ (g h : Nat) (A : Option Addr) (c : Nat), e = .returned (.tuple #[.pointer (some ⟨g, 0, none⟩), .slice A n c]) ∧ Both u g h n (foldR n l) A w'
end Go.Proofs.Ytchogpdfdpbpfaa
