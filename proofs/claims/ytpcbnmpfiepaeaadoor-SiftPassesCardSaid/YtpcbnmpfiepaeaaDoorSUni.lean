/- Layer 20: the spans of two filters put together. Condition: rows that lie in memory that is there; few values. -/
import Derived.Test.YtpcbnmpfiepaeaaDoorSift3
namespace Go.Proofs.YtpcbnmpfiepaeaaDoor
open Go.RowKit
attribute [local go_sem] more_cell more_frozen more_more more_setCell more_of_drew more_of_drewN lt_more le_more past_cell past_cell2 past_frozen past_frozen2 past_setCell past_setCell2 mid_cell mid_frozen mid_setCell
attribute [local go_sem ↓] Go.wp_at_zero Go.wp_at_succ

def padS (a : List S) (n : Nat) : List S := a ++ List.replicate (n - a.length) zeroS
theorem padS_getD (a : List S) (n i : Nat) : (padS a n).getD i zeroS = a.getD i zeroS := by
  unfold padS
  rw [List.getD_eq_getElem?_getD, List.getD_eq_getElem?_getD, List.getElem?_append]
  split
  · rfl
  · rename_i h
    rw [List.getElem?_replicate, List.getElem?_eq_none (by omega : a.length ≤ i)]
    split <;> rfl
def uniJ (a b : List S) : Nat → List S
  | 0 => padS a (max a.length b.length)
  | j + 1 => (uniJ a b j).set j (unionS ((uniJ a b j).getD j zeroS) (b.getD j zeroS))
theorem uniJ_len (a b : List S) : ∀ j, (uniJ a b j).length = max a.length b.length
  | 0 => by
    show (a ++ List.replicate _ zeroS).length = _
    rw [List.length_append, List.length_replicate]
    omega
  | j + 1 => by
    show ((uniJ a b j).set j _).length = _
    rw [List.length_set, uniJ_len a b j]
theorem uniJ_getD (a b : List S) : ∀ j, j ≤ b.length → ∀ i, (uniJ a b j).getD i zeroS = if i < j then unionS (a.getD i zeroS) (b.getD i zeroS) else a.getD i zeroS
  | 0, _, i => by
    rw [if_neg (Nat.not_lt_zero i)]
    exact padS_getD a _ i
  | j + 1, h, i => by
    have ih := uniJ_getD a b j (by omega)
    have hl := uniJ_len a b j
    show ((uniJ a b j).set j _).getD i zeroS = _
    rw [List.getD_eq_getElem?_getD, List.getElem?_set]
    by_cases e : j = i
    · subst e
      rw [if_pos rfl, if_pos (by omega), if_pos (by omega), Option.getD_some, ih j, if_neg (Nat.lt_irrefl j)]
    · rw [if_neg e, ← List.getD_eq_getElem?_getD, ih i]
      by_cases h1 : i < j
      · rw [if_pos h1, if_pos (by omega)]
      · rw [if_neg h1, if_neg (by omega)]
theorem few_getD {m : Nat} {ss : List S} (h : ∀ s ∈ ss, FewN m s) (i : Nat) : FewN m (ss.getD i zeroS) := by
  rw [List.getD_eq_getElem?_getD]
  rcases Nat.lt_or_ge i ss.length with hi | hi
  · rw [List.getElem?_eq_getElem hi]
    exact h _ (List.getElem_mem hi)
  · rw [List.getElem?_eq_none hi]
    exact fewN_zero m
theorem made_flatS (n : Nat) : madeCells #[Value.int .i64 0, .int .i64 0, .string ⟨#[]⟩, .int .i64 0, .int .i64 0, .string ⟨#[]⟩, .int .i64 0, .int .i64 0] (n * 8) = (flatS (List.replicate n zeroS)).toArray := by
  apply Array.ext'
  have e : ∀ k, (madeCells #[Value.int .i64 0, .int .i64 0, .string ⟨#[]⟩, .int .i64 0, .int .i64 0, .string ⟨#[]⟩, .int .i64 0, .int .i64 0] k).toList = (List.range k).map (fun i => (#[Value.int .i64 0, .int .i64 0, .string ⟨#[]⟩, .int .i64 0, .int .i64 0, .string ⟨#[]⟩, .int .i64 0, .int .i64 0] : Array Value)[i % 8]!) := fun k => by
    unfold madeCells
    simp
  rw [e]
  show _ = flatS (List.replicate n zeroS)
  induction n with
  | zero => rfl
  | succ n ih =>
    rw [show (n + 1) * 8 = n * 8 + 1 + 1 + 1 + 1 + 1 + 1 + 1 + 1 by omega, List.range_succ, List.range_succ, List.range_succ, List.range_succ, List.range_succ, List.range_succ, List.range_succ, List.range_succ, List.map_append, List.map_append, List.map_append, List.map_append, List.map_append, List.map_append, List.map_append, List.map_append, ih, List.replicate_succ', flatS_app]
    simp only [List.append_assoc]
    congr 1
    have h0 : n * 8 % 8 = 0 := by omega
    have h1 : (n * 8 + 1) % 8 = 1 := by omega
    have h2 : (n * 8 + 1 + 1) % 8 = 2 := by omega
    have h3 : (n * 8 + 1 + 1 + 1) % 8 = 3 := by omega
    have h4 : (n * 8 + 1 + 1 + 1 + 1) % 8 = 4 := by omega
    have h5 : (n * 8 + 1 + 1 + 1 + 1 + 1) % 8 = 5 := by omega
    have h6 : (n * 8 + 1 + 1 + 1 + 1 + 1 + 1) % 8 = 6 := by omega
    have h7 : (n * 8 + 1 + 1 + 1 + 1 + 1 + 1 + 1) % 8 = 7 := by omega
    simp only [List.map_cons, List.map_nil, h0, h1, h2, h3, h4, h5, h6, h7]
    rfl
theorem flatS_drop (m : List S) (j : Nat) : (flatS m).drop (j * 8) = flatS (m.drop j) := by
  rcases Nat.lt_or_ge m.length j with h | h
  · rw [List.drop_of_length_le (by rw [flatS_len]; omega), List.drop_of_length_le (by omega)]
    rfl
  · have e : flatS m = flatS (m.take j) ++ flatS (m.drop j) := by rw [← flatS_app, List.take_append_drop]
    rw [e, List.drop_append, flatS_len, List.length_take, Nat.min_eq_left h, Nat.sub_self, List.drop_zero, List.drop_of_length_le (by rw [flatS_len, List.length_take]; omega), List.nil_append]
theorem own_wholeS {w : World} {g base n : Nat} {m : List S} (hn : m.length = n) (h : w.heap[g]? = some (.cells (flatS m).toArray 50 (0, 0))) (hb : base ≤ g) (hl : n ≤ 1000000) : w.ownsRow base 50 8 (.slice (some ⟨g, 0, none⟩) n n) n (flatS m) :=
  ⟨by rw [flatS_len, hn], Or.inr ⟨g, n, _, rfl, hb, h, Nat.le_refl _, by unfold maxLen; omega, by simp [flatS_len, hn], by
    show (flatS m).take (n * 8) = flatS m
    rw [List.take_of_length_le (by rw [flatS_len, hn]; exact Nat.le_refl _)]⟩⟩
def UnF (w : World) (r : List S) (en : Ending) (w' : World) : Prop :=
  ∃ S2 c2, en = .returned (.slice S2 r.length c2) ∧ Grew w w' ∧ w'.ownsRow w.heap.size 50 8 (.slice S2 r.length c2) r.length (flatS r)
def UnAt (w : World) (n : Nat) (a b : List S) (i : Value) (wr : World) : Prop :=
  ∃ j : Nat, j ≤ b.length ∧ i = .int .i64 j ∧ Grew w wr ∧ wr.ownsRow w.heap.size 50 8 (.slice (some ⟨w.heap.size, 0, none⟩) n n) n (flatS (uniJ a b j))
end Go.Proofs.YtpcbnmpfiepaeaaDoor
