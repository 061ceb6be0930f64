/- Layer 4: what is more than is asked of rows. Condition: rows that lie in memory that is there. -/
import Derived.Test.YtbglmcebkpkccaaGreatDoorTabKit
import Derived.Test.YtbglmcebkpkccaaGreatDoorMuchR
namespace Go.Proofs.YtbglmcebkpkccaaGreatDoor
open Go.RowKit
attribute [local go_sem] more_cell more_frozen more_more more_setCell more_of_drew more_of_drewN lt_more le_more past_cell past_cell2 past_frozen past_frozen2 past_setCell past_setCell2 mid_cell mid_frozen mid_setCell
attribute [local go_sem ↓] Go.wp_at_zero Go.wp_at_succ

def szR (r : List Vl) : Nat := (r.map fun v => 1 + v.s.size).sum
def szRs (l : List (List Vl)) : Nat := (l.map szR).sum
theorem szR_take {r : List Vl} {k : Nat} (h : k < r.length) : szR (r.take (k + 1)) = szR (r.take k) + (1 + r[k].s.size) := by
  unfold szR
  rw [List.take_succ_eq_append_getElem h, List.map_append, List.sum_append]
  simp
theorem szRs_take {r : List (List Vl)} {k : Nat} (h : k < r.length) : szRs (r.take (k + 1)) = szRs (r.take k) + szR r[k] := by
  unfold szRs
  rw [List.take_succ_eq_append_getElem h, List.map_append, List.sum_append]
  simp
theorem szR_leB {r : List Vl} {B : Nat} (h : ∀ v ∈ r, v.s.size ≤ B) : ∀ k, szR (r.take k) ≤ k * (B + 1)
  | 0 => by simp [szR]
  | k + 1 => by
    have h1 := szR_leB h k
    rw [Nat.add_mul, Nat.one_mul]
    rcases Nat.lt_or_ge k r.length with hk | hk
    · have h2 := h _ (List.getElem_mem hk)
      rw [szR_take hk]
      omega
    · rw [List.take_of_length_le (by omega)] at h1 ⊢
      omega
theorem szR_le {r : List Vl} (h : ∀ v ∈ r, VlOk v) (k : Nat) : szR (r.take k) ≤ k * 140737488355329 := szR_leB (fun v hv => (h v hv).2.2) k
def goodRws (l : List (List Vl)) : Prop := l.length ≤ 50 ∧ (∀ r ∈ l, r.length ≤ 40) ∧ szRs l ≤ 2000
def In4At (r : List Vl) (m0 : Nat) (n i : Value) : Prop := ∃ k m : Nat, k ≤ r.length ∧ i = .int .i64 k ∧ n = .int .i64 m ∧ m = m0 + szR (r.take k)
def Much4At (w : World) (l : List (List Vl)) (n i : Value) (wr : World) : Prop :=
  ∃ j m : Nat, j ≤ l.length ∧ i = .int .i64 j ∧ n = .int .i64 m ∧ m = szRs (l.take j) ∧ m ≤ 2000 ∧ Grew w wr ∧ ∀ r ∈ l.take j, r.length ≤ 40
end Go.Proofs.YtbglmcebkpkccaaGreatDoor
