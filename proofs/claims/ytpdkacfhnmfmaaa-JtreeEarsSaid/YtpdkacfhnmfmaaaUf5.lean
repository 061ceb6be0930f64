/- Layer 6: classes of a call's own, by what they tell; the page's example. No condition. -/
import Derived.Test.YtpdkacfhnmfmaaaUf4
namespace Go.Proofs.Ytpdkacfhnmfmaaa
open Go.RowKit
attribute [local go_sem] more_cell more_frozen more_more more_setCell more_of_drew more_of_drewN lt_more le_more past_cell past_cell2 past_frozen past_frozen2 past_setCell past_setCell2 mid_cell mid_frozen mid_setCell
attribute [local go_sem ↓] Go.wp_at_zero Go.wp_at_succ

/-- How many classes. -/
def rootsN : Nat → (Nat → Nat) → Nat
  | 0, _ => 0
  | n + 1, r => rootsN n r + if r n = n then 1 else 0
theorem rootsN_le (n : Nat) (r : Nat → Nat) : rootsN n r ≤ n := by
  induction n with
  | zero => exact Nat.le_refl _
  | succ n ih => show rootsN n r + _ ≤ _; split <;> omega
theorem rootsN_id (n : Nat) : rootsN n id = n := by
  induction n with
  | zero => rfl
  | succ n ih => show rootsN n id + (if id n = n then 1 else 0) = _; rw [ih]; simp
theorem rootsN_pos (n : Nat) (r : Nat → Nat) (p : Nat) (hp : p < n) (h : r p = p) : 0 < rootsN n r := by
  induction n with
  | zero => omega
  | succ n ih =>
    show 0 < rootsN n r + _
    by_cases e : p = n
    · subst e; rw [if_pos h]; omega
    · have := ih (by omega); omega
theorem rootsN_less (n m : Nat) (r r' : Nat → Nat) (hm : r m = m) (h : ∀ i, i < n → (r' i = i ↔ r i = i ∧ i ≠ m)) : rootsN n r' + (if m < n then 1 else 0) = rootsN n r := by
  induction n with
  | zero => simp [rootsN]
  | succ n ih =>
    have := ih (fun i hi => h i (by omega))
    have hn := h n (by omega)
    show rootsN n r' + (if r' n = n then 1 else 0) + _ = rootsN n r + (if r n = n then 1 else 0)
    by_cases e : n = m
    · subst e
      rw [if_neg (fun x => (hn.1 x).2 rfl), if_pos hm, if_pos (by omega)]
      rw [if_neg (by omega)] at this
      omega
    · by_cases e2 : r n = n
      · rw [if_pos (hn.2 ⟨e2, e⟩), if_pos e2]
        by_cases e3 : m < n
        · rw [if_pos (by omega)]; rw [if_pos e3] at this; omega
        · rw [if_neg (by omega)]; rw [if_neg e3] at this; omega
      · rw [if_neg (fun x => e2 (hn.1 x).1), if_neg e2]
        by_cases e3 : m < n
        · rw [if_pos (by omega)]; rw [if_pos e3] at this; omega
        · rw [if_neg (by omega)]; rw [if_neg e3] at this; omega
theorem rootsN_join (n : Nat) (r : Nat → Nat) (hl : Least n r) {a b : Nat} (ha : a < n) (hb : b < n) (hne : r a ≠ r b) : rootsN n (joinR r (r a) (r b)) + 1 = rootsN n r := by
  have h1 := hl.idem a ha
  have h2 := hl.idem b hb
  have h3 := hl.le a ha
  have h4 := hl.le b hb
  have := rootsN_less n (max (r a) (r b)) r (joinR r (r a) (r b)) (by
    rcases Nat.le_total (r a) (r b) with h7 | h7
    · rw [Nat.max_eq_right h7, h2]
    · rw [Nat.max_eq_left h7, h1]) (fun i hi => by
    have h5 := hl.idem i hi
    unfold joinR
    by_cases e : r i = max (r a) (r b)
    · rw [if_pos e]
      constructor
      · intro h
        exfalso
        have h8 : r (min (r a) (r b)) = min (r a) (r b) := by
          rcases Nat.le_total (r a) (r b) with h7 | h7
          · rw [Nat.min_eq_left h7, h1]
          · rw [Nat.min_eq_right h7, h2]
        rw [h] at h8
        omega
      · rintro ⟨e1, e2⟩
        omega
    · rw [if_neg e]
      exact ⟨fun h => ⟨h, by omega⟩, fun h => h.1⟩)
  rw [if_pos (by omega)] at this
  exact this
/-- The row of a slice is none of these. -/
def Off (A : Option Addr) (g h : Nat) : Prop := ∀ p, A = some p → p.block ≠ g ∧ p.block ≠ h
def sameB (n : Nat) (r : Nat → Nat) (a b : Int) : Bool := decide (0 ≤ findI n r a) && (findI n r a == findI n r b)
/-- What Join makes of each number's class, and its answer. -/
def inB (n : Nat) (a b : Int) : Prop := 0 ≤ a ∧ 0 ≤ b ∧ a < n ∧ b < n
instance inB_dec (n : Nat) (a b : Int) : Decidable (inB n a b) := by unfold inB; infer_instance
def joinI (n : Nat) (r : Nat → Nat) (a b : Int) : Nat → Nat := if inB n a b then joinR r (r a.toNat) (r b.toNat) else r
def joinsB (n : Nat) (r : Nat → Nat) (a b : Int) : Bool := if inB n a b then r a.toNat != r b.toNat else false
theorem Least.joinI {n : Nat} {r : Nat → Nat} (h : Least n r) (a b : Int) : Least n (joinI n r a b) := by
  unfold Go.Proofs.Ytpdkacfhnmfmaaa.joinI
  split
  · rename_i hi
    unfold inB at hi
    exact h.join (by omega) (by omega)
  · exact h
end Go.Proofs.Ytpdkacfhnmfmaaa
