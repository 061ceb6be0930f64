/- Layer 6: classes of a call's own, by what they tell; the page's example. No condition. -/
import Derived.Test.YtoaciliojdaoaaaUf4
namespace Go.Proofs.Ytoaciliojdaoaaa
open Go.RowKit
attribute [local go_sem] more_cell more_frozen more_more more_setCell more_of_drew more_of_drewN lt_more le_more past_cell past_cell2 past_frozen past_frozen2 past_setCell past_setCell2 mid_cell mid_frozen mid_setCell
attribute [local go_sem ↓] Go.wp_at_zero Go.wp_at_succ

/-- How many classes. -/
def rootsN : Nat → (Nat → Nat) → Nat
  | 0, _ => 0
  | n + 1, r => rootsN n r + if r n = n then 1 else 0
theorem rootsN_le (n : Nat) (r : Nat → Nat) : rootsN n r ≤ n := by
  induction n with
  | zero => exact Nat.le_refl _
  | succ n ih => show rootsN n r + _ ≤ _; split <;> omega
theorem rootsN_id (n : Nat) : rootsN n id = n := by
  induction n with
  | zero => rfl
  | succ n ih => show rootsN n id + (if id n = n then 1 else 0) = _; rw [ih]; simp
theorem rootsN_pos (n : Nat) (r : Nat → Nat) (p : Nat) (hp : p < n) (h : r p = p) : 0 < rootsN n r := by
  induction n with
  | zero => omega
  | succ n ih =>
    show 0 < rootsN n r + _
    by_cases e : p = n
    · subst e; rw [if_pos h]; omega
    · have := ih (by omega); omega
theorem rootsN_less (n m : Nat) (r r' : Nat → Nat) (hm : r m = m) (h : ∀ i, i < n → (r' i = i ↔ r i = i ∧ i ≠ m)) : rootsN n r' + (if m < n then 1 else 0) = rootsN n r := by
  induction n with
  | zero => simp [rootsN]
  | succ n ih =>
    have := ih (fun i hi => h i (by omega))
    have hn := h n (by omega)
    show rootsN n r' + (if r' n = n then 1 else 0) + _ = rootsN n r + (if r n = n then 1 else 0)
    by_cases e : n = m
    · subst e
      rw [if_neg (fun x => (hn.1 x).2 rfl), if_pos hm, if_pos (by omega)]
      rw [if_neg (by omega)] at this
      omega
    · by_cases e2 : r n = n
      · rw [if_pos (hn.2 ⟨e2, e⟩), if_pos e2]
        by_cases e3 : m < n
        · rw [if_pos (by omega)]; rw [if_pos e3] at this; omega
        · rw [if_neg (by omega)]; rw [if_neg e3] at this; omega
      · rw [if_neg (fun x => e2 (hn.1 x).1), if_neg e2]
        by_cases e3 : m < n
        · rw [if_pos (by omega)]; rw [if_pos e3] at this; omega
        · rw [if_neg (by omega)]; rw [if_neg e3] at this; omega
theorem rootsN_join (n : Nat) (r : Nat → Nat) (hl : Least n r) {a b : Nat} (ha : a < n) (hb : b < n) (hne : r a ≠ r b) : rootsN n (joinR r (r a) (r b)) + 1 = rootsN n r := by
  have h1 := hl.idem a ha
  have h2 := hl.idem b hb
  have h3 := hl.le a ha
  have h4 := hl.le b hb
  have := rootsN_less n (max (r a) (r b)) r (joinR r (r a) (r b)) (by
    rcases Nat.le_total (r a) (r b) with h7 | h7
    · rw [Nat.max_eq_right h7, h2]
    · rw [Nat.max_eq_left h7, h1]) (fun i hi => by
    have h5 := hl.idem i hi
    unfold joinR
    by_cases e : r i = max (r a) (r b)
    · rw [if_pos e]
      constructor
      · intro h
        exfalso
        have h8 : r (min (r a) (r b)) = min (r a) (r b) := by
          rcases Nat.le_total (r a) (r b) with h7 | h7
          · rw [Nat.min_eq_left h7, h1]
          · rw [Nat.min_eq_right h7, h2]
        rw [h] at h8
        omega
      · rintro ⟨e1, e2⟩
        omega
    · rw [if_neg e]
      exact ⟨fun h => ⟨h, by omega⟩, fun h => h.1⟩)
  rw [if_pos (by omega)] at this
  exact this
/-- Classes of a call's own, above u: each number's class is r. -/
structure UfS (u : World) (g h n : Nat) (r : Nat → Nat) (w : World) : Prop where
  grew : Grew u w
  gu : u.heap.size ≤ g
  hu : u.heap.size ≤ h
  least : Least n r
  lies : ∃ f, UfAt w g h n f (rootsN n r) ∧ Leads n f r
theorem UfS.small {u : World} {g h n : Nat} {r : Nat → Nat} {w : World} (s : UfS u g h n r w) : n ≤ 65536 := by
  obtain ⟨f, a, _⟩ := s.lies
  exact a.small
theorem UfS.lt {u : World} {g h n : Nat} {r : Nat → Nat} {w : World} (s : UfS u g h n r w) : g < w.heap.size ∧ h < w.heap.size := by
  obtain ⟨f, a, _⟩ := s.lies
  exact ⟨a.top.lt, a.row.lt⟩
theorem UfS.more {u : World} {g h n : Nat} {r : Nat → Nat} {w : World} (s : UfS u g h n r w) (x : Xs) : UfS u g h n r (Go.Proofs.Ytoaciliojdaoaaa.more w x) := by
  obtain ⟨f, a, b⟩ := s.lies
  exact ⟨s.grew.more x, s.gu, s.hu, s.least, f, a.more x, b⟩
theorem UfS.on {u w w' : World} {g h n : Nat} {r : Nat → Nat} (s : UfS u g h n r w) (k : Grew w w') : UfS u g h n r w' := by
  obtain ⟨x, rfl⟩ := k
  exact s.more x
theorem UfS.drew {u : World} {g h n : Nat} {r : Nat → Nat} {w : World} (s : UfS u g h n r w) : UfS u g h n r w.drew := s.on ((Grew.refl w).drew)
theorem UfS.drewN {u : World} {g h n : Nat} {r : Nat → Nat} {w : World} (s : UfS u g h n r w) (k : Nat) : UfS u g h n r (w.drewN k) := s.on ((Grew.refl w).drewN k)
/-- Behind a turn of these classes. -/
theorem UfS.keep {u w w' : World} {g h n : Nat} {r r' : Nat → Nat} (s : UfS u g h n r w) (k : Keep2 w w' g h) (hl : Least n r') (hf : ∃ f, UfAt w' g h n f (rootsN n r') ∧ Leads n f r') : UfS u g h n r' w' :=
  ⟨k.grew s.grew s.gu s.hu, s.gu, s.hu, hl, hf⟩
/-- The row of a slice is none of these. -/
def Off (A : Option Addr) (g h : Nat) : Prop := ∀ p, A = some p → p.block ≠ g ∧ p.block ≠ h
theorem UfS.turn {u w w' : World} {g h n : Nat} {r : Nat → Nat} {c : Int} (s : UfS u g h n r w) (hc : c = rootsN n r) (k : Found2 w g h n r c w') : UfS u g h n r w' ∧ Keep2 w w' g h := by
  subst hc
  exact ⟨s.keep (k.1.keep g) s.least k.2, k.1.keep g⟩
theorem uf_new (n : Nat) (hn : n ≤ 40) (w : World) : Calls Try.prog 73 #[.int .i64 n] w fun e w' => ∃ g h, e = .returned (.pointer (some ⟨g, 0, none⟩)) ∧ UfS w g h n id w' ∧ Grew w w' :=
  (new_any n hn w).mono fun e w' ⟨g, h, he, hg, hh, hG, hf⟩ => ⟨g, h, he, ⟨hG, hg, hh, ⟨fun i _ => Nat.le_refl i, fun _ _ => rfl⟩, by rw [rootsN_id]; exact hf⟩, hG⟩
theorem uf_find (a x : Int) (u w : World) (g h n : Nat) (r : Nat → Nat) (s : UfS u g h n r w) (hx : findI n r a = x) :
    Calls Try.prog 77 #[.pointer (some ⟨g, 0, none⟩), .int .i64 a] w fun e w' => e = .returned (.int .i64 x) ∧ UfS u g h n r w' ∧ Keep2 w w' g h := by
  obtain ⟨f, ha, hl⟩ := s.lies
  exact (find_first a x w g h n f r _ ha hl hx).mono fun e w' ⟨he, hk⟩ => ⟨he, s.turn rfl hk⟩
def sameB (n : Nat) (r : Nat → Nat) (a b : Int) : Bool := decide (0 ≤ findI n r a) && (findI n r a == findI n r b)
theorem uf_len (u w : World) (g h n : Nat) (r : Nat → Nat) (s : UfS u g h n r w) :
    Calls Try.prog 78 #[.pointer (some ⟨g, 0, none⟩)] w fun e w' => e = .returned (.int .i64 n) ∧ w' = w := by
  obtain ⟨f, ha, hl⟩ := s.lies
  exact len_any w g h n f _ ha
/-- What Join makes of each number's class, and its answer. -/
def inB (n : Nat) (a b : Int) : Prop := 0 ≤ a ∧ 0 ≤ b ∧ a < n ∧ b < n
instance inB_dec (n : Nat) (a b : Int) : Decidable (inB n a b) := by unfold inB; infer_instance
def joinI (n : Nat) (r : Nat → Nat) (a b : Int) : Nat → Nat := if inB n a b then joinR r (r a.toNat) (r b.toNat) else r
def joinsB (n : Nat) (r : Nat → Nat) (a b : Int) : Bool := if inB n a b then r a.toNat != r b.toNat else false
theorem Least.joinI {n : Nat} {r : Nat → Nat} (h : Least n r) (a b : Int) : Least n (joinI n r a b) := by
  unfold Go.Proofs.Ytoaciliojdaoaaa.joinI
  split
  · rename_i hi
    unfold inB at hi
    exact h.join (by omega) (by omega)
  · exact h
theorem uf_join (a b : Int) (u w : World) (g h n : Nat) (r r' : Nat → Nat) (s : UfS u g h n r w) (t : Bool) (ht : joinsB n r a b = t) (hr' : joinI n r a b = r') :
    Calls Try.prog 74 #[.pointer (some ⟨g, 0, none⟩), .int .i64 a, .int .i64 b] w fun e w' => e = .returned (.bool t) ∧ UfS u g h n r' w' ∧ Keep2 w w' g h := by
  subst ht hr'
  obtain ⟨f, ha, hl⟩ := s.lies
  by_cases hi : inB n a b
  · have hi' := hi
    unfold inB at hi'
    have e1 : joinI n r a b = joinR r (r a.toNat) (r b.toNat) := if_pos hi
    have e2 : joinsB n r a b = (r a.toNat != r b.toNat) := if_pos hi
    have hp : findI n r a = (r a.toNat : Nat) := if_pos ⟨hi'.1, hi'.2.2.1⟩
    have hq : findI n r b = (r b.toNat : Nat) := if_pos ⟨hi'.2.1, hi'.2.2.2⟩
    rw [e1, e2]
    by_cases e : r a.toNat = r b.toNat
    · rw [e, joinR_same, bne_self_eq_false]
      exact (join_no a b _ _ w g h n f r _ ha hl hp hq (Or.inr (Or.inr (by rw [e])))).mono fun e' w' ⟨he, hk, hf⟩ => ⟨he, s.keep hk s.least hf, hk⟩
    · have e3 : (r a.toNat != r b.toNat) = true := by rw [bne_iff_ne]; exact e
      rw [e3]
      have hj := rootsN_join n r s.least (a := a.toNat) (b := b.toNat) (by omega) (by omega) e
      refine (join_yes a b _ _ w g h n f r _ ha hl s.least hp hq e (by omega) ?_).mono fun e' w' ⟨he, hk, hf⟩ => ⟨he, s.keep hk (s.least.join (by omega) (by omega)) ?_, hk⟩
      · have h1 := rootsN_le n r
        have h2 := s.small
        omega
      · rw [show ((rootsN n (joinR r (r a.toNat) (r b.toNat)) : Nat) : Int) = (rootsN n r : Int) - 1 by omega]
        exact hf
  · have e1 : joinI n r a b = r := if_neg hi
    have e2 : joinsB n r a b = false := if_neg hi
    rw [e1, e2]
    have h1 : findI n r a < 0 ∨ findI n r b < 0 ∨ findI n r a = findI n r b := by
      unfold inB at hi
      by_cases h0 : 0 ≤ a ∧ a < n
      · refine Or.inr (Or.inl ?_)
        unfold findI
        rw [if_neg (by omega)]
        omega
      · refine Or.inl ?_
        unfold findI
        rw [if_neg h0]
        omega
    exact (join_no a b _ _ w g h n f r _ ha hl rfl rfl h1).mono fun e' w' ⟨he, hk, hf⟩ => ⟨he, s.keep hk s.least hf, hk⟩
end Go.Proofs.Ytoaciliojdaoaaa
