/- Layer 6: classes behind joins, and the document's own beside them. Condition: no more than 60 pairs, which lie in memory that is there. -/
import Derived.Test.YtpdkacfhnmfmaaaUf5
import Derived.Test.YtpdkacfhnmfmaaaFrame4
namespace Go.Proofs.Ytpdkacfhnmfmaaa
open Go.RowKit
attribute [local go_sem] more_cell more_frozen more_more more_setCell more_of_drew more_of_drewN lt_more le_more past_cell past_cell2 past_frozen past_frozen2 past_setCell past_setCell2 mid_cell mid_frozen mid_setCell
attribute [local go_sem ↓] Go.wp_at_zero Go.wp_at_succ

/-- The cells of pairs. -/
def pairsC (l : List (Int × Int)) : List (List Value) := l.map fun p => [.int .i64 p.1, .int .i64 p.2]
theorem pairs_at {w : World} {A : Option Addr} {l : List (Int × Int)} {k : Nat} (h : Grid w A 2 (pairsC l)) (hk : k < l.length) :
    ∃ b o, A = some ⟨b, o, none⟩ ∧ b < w.heap.size ∧ w.cell? ⟨b, o + k * 2, none⟩ = some (.int .i64 l[k].1) ∧ w.cell? ⟨b, o + k * 2 + 1, none⟩ = some (.int .i64 l[k].2) := by
  obtain ⟨b, o, hA, hb, hc⟩ := h.at_ (k := k) (by simpa [pairsC] using hk)
  refine ⟨b, o, hA, hb, ?_, ?_⟩
  · have := hc 0 (.int .i64 l[k].1) (by simp [pairsC])
    simpa using this
  · have := hc 1 (.int .i64 l[k].2) (by simp [pairsC])
    rw [Nat.add_assoc]
    exact this
theorem pairs_cells {u w : World} {b o : Nat} {l : List (Int × Int)} {k : Nat} {x y : Int} (h : Grid u (some ⟨b, o, none⟩) 2 (pairsC l)) (hg : Grew u w) (hk : k < l.length) (hx : l[k].1 = x) (hy : l[k].2 = y) :
    b < w.heap.size ∧ w.cell? ⟨b, o + k * 2, none⟩ = some (.int .i64 x) ∧ w.cell? ⟨b, o + k * 2 + 1, none⟩ = some (.int .i64 y) := by
  obtain ⟨b', o', hA, hb, c0, c1⟩ := pairs_at (h.grew hg) hk
  injection hA with hA
  injection hA with e1 e2 _
  subst e1 e2 hx hy
  exact ⟨hb, c0, c1⟩
theorem pairs_some {u : World} {P : Option Addr} {l : List (Int × Int)} {k : Nat} (h : Grid u P 2 (pairsC l)) (hk : k < l.length) : ∃ b o, P = some ⟨b, o, none⟩ := by
  obtain ⟨b, o, hA, _⟩ := pairs_at h hk
  exact ⟨b, o, hA⟩
/-- Each number's class behind the joins. -/
def foldR (n : Nat) (l : List (Int × Int)) : Nat → Nat := l.foldl (fun r p => joinI n r p.1 p.2) id
theorem foldR_take (n : Nat) (l : List (Int × Int)) (k : Nat) (h : k < l.length) : foldR n (l.take (k + 1)) = joinI n (foldR n (l.take k)) l[k].1 l[k].2 := by
  rw [List.take_succ_eq_append_getElem h]
  unfold foldR
  rw [List.foldl_append]
  rfl
end Go.Proofs.Ytpdkacfhnmfmaaa
