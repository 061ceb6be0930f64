/- Layer 19: the page's example; the law of what was added. Condition: values that lie in memory that is there. -/
import Derived.Test.YthngafgblehpoaaSpan3
namespace Go.Proofs.Ythngafgblehpoaa
open Go.RowKit
attribute [local go_sem] more_cell more_frozen more_more more_setCell more_of_drew more_of_drewN lt_more le_more past_cell past_cell2 past_frozen past_frozen2 past_setCell past_setCell2 mid_cell mid_frozen mid_setCell
attribute [local go_sem ↓] Go.wp_at_zero Go.wp_at_succ

def liveL : List V := [⟨1, 3, ⟨#[]⟩⟩, ⟨0, 0, ⟨#[]⟩⟩, ⟨1, 7, ⟨#[]⟩⟩]
theorem liveS : addS zeroS liveL = ⟨⟨1, 3, ⟨#[]⟩⟩, ⟨1, 7, ⟨#[]⟩⟩, 2, 1⟩ := by
  have c0 : Lib.compareBytes (⟨#[]⟩ : ByteArray).data.toList (⟨#[]⟩ : ByteArray).data.toList = 0 := by simp [Lib.compareBytes]
  simp [liveL, addS, ofS, unionS, zeroS, ord, ordV, ordI]
theorem vrow_of_row {w : World} {A : Option Addr} {l : List V} (h : Row w A (l.map vc).flatten) : VRow w A l := by
  have hf : ∀ (l : List V) (i j : Nat), j < 3 → (l.map vc).flatten[i * 3 + j]? = (l[i]?).bind fun v => (vc v)[j]? := by
    intro l
    induction l with
    | nil => intro i j _; simp
    | cons v l ih =>
      intro i j hj
      cases i with
      | zero =>
        rw [Nat.zero_mul, Nat.zero_add, List.map_cons, List.flatten_cons, List.getElem?_append_left (by simpa [vc] using hj)]
        rfl
      | succ i =>
        rw [List.map_cons, List.flatten_cons, show (i + 1) * 3 + j = 3 + (i * 3 + j) by omega, List.getElem?_append_right (by simp [vc])]
        have := ih i j hj
        simpa [vc] using this
  rcases h with h | ⟨b, o, hA, hb, hc⟩
  · refine Or.inl ?_
    cases l with
    | nil => rfl
    | cons v l => simp [vc] at h
  · refine Or.inr ⟨b, o, hA, hb, fun i cs hi j u hu => hc _ _ ?_⟩
    rw [List.getElem?_map, Option.map_eq_some_iff] at hi
    obtain ⟨v, hv, rfl⟩ := hi
    have hj : j < 3 := by
      rcases Nat.lt_or_ge j 3 with h | h
      · exact h
      · rw [List.getElem?_eq_none (by simpa [vc] using h)] at hu; cases hu
    rw [hf l i j hj, hv]
    exact hu
theorem add_to (s r : S) (l : List V) (A : Option Addr) (n c : Nat) (hn : l.length = n) (hl : n ≤ 1000000) (hf : ∀ j, j ≤ l.length → fewS (addS s (l.take j))) (w : World) (hr : VRow w A l) (hx : addS s l = r) :
    Calls Try.prog 31 #[sa s, .slice A n c] w fun e w' => e = .returned (sa r) ∧ ∃ z, w' = more w z := by
  subst hn hx
  exact add_val s l A c hl hf w hr
theorem fewS_of (l : List V) (h : l.length ≤ 1000000) : fewS (addS zeroS l) := by
  have h1 := Is.of l
  have h2 := h1.whole
  have h3 := h1.nulls
  have h4 := nn_le l
  unfold fewS
  omega
theorem fewS_take (a l : List V) (h : a.length + l.length ≤ 1000000) : ∀ j, j ≤ l.length → fewS (addS (addS zeroS a) (l.take j)) := by
  intro j hj
  rw [addS_append]
  exact fewS_of _ (by rw [List.length_append, List.length_take]; omega)
set_option maxHeartbeats 2000000 in
theorem live19_any (w : World) : Gives Try.prog 29 #[] w (.bool true) := by
  unfold Gives
  have c0 : Lib.compareBytes (⟨#[]⟩ : ByteArray).data.toList (⟨#[]⟩ : ByteArray).data.toList = 0 := by simp [Lib.compareBytes]
  have HA : Hid (∀ (b : Nat) (W : World), b = W.heap.size → Calls Try.prog 31 #[.agg #[.int .i64 0, .int .i64 0, .string ⟨#[]⟩, .int .i64 0, .int .i64 0, .string ⟨#[]⟩, .int .i64 0, .int .i64 0], .slice (some ⟨b, 0, none⟩) 3 3] (W.alloc (.cells #[.int .i64 1, .int .i64 3, .string ⟨#[]⟩, .int .i64 0, .int .i64 0, .string ⟨#[]⟩, .int .i64 1, .int .i64 7, .string ⟨#[]⟩] 44)) fun e w' => e = .returned (.agg #[.int .i64 1, .int .i64 3, .string ⟨#[]⟩, .int .i64 1, .int .i64 7, .string ⟨#[]⟩, .int .i64 2, .int .i64 1]) ∧ ∃ z, w' = more (W.alloc (.cells #[.int .i64 1, .int .i64 3, .string ⟨#[]⟩, .int .i64 0, .int .i64 0, .string ⟨#[]⟩, .int .i64 1, .int .i64 7, .string ⟨#[]⟩] 44)) z) := Lib.hid fun b W hb =>
    add_to zeroS _ liveL _ 3 3 rfl (by omega) (fun j hj => fewS_take [] liveL (by decide) j hj) _ (vrow_of_row (row_new W _ b #[.int .i64 1, .int .i64 3, .string ⟨#[]⟩, .int .i64 0, .int .i64 0, .string ⟨#[]⟩, .int .i64 1, .int .i64 7, .string ⟨#[]⟩] hb)) liveS
  have HH : ∀ (k i : Int) (t : Bool), hasS ⟨⟨1, 3, ⟨#[]⟩⟩, ⟨1, 7, ⟨#[]⟩⟩, 2, 1⟩ ⟨k, i, ⟨#[]⟩⟩ = t → ∀ W, Calls Try.prog 36 #[.agg #[.int .i64 1, .int .i64 3, .string ⟨#[]⟩, .int .i64 1, .int .i64 7, .string ⟨#[]⟩, .int .i64 2, .int .i64 1], .agg #[.int .i64 k, .int .i64 i, .string ⟨#[]⟩]] W fun e w' => e = .returned (.bool t) ∧ ∃ z, w' = more W z := fun k i t ht W => has_to ⟨⟨1, 3, ⟨#[]⟩⟩, ⟨1, 7, ⟨#[]⟩⟩, 2, 1⟩ ⟨k, i, ⟨#[]⟩⟩ t ht W
  have H1 := Lib.hid (HH 1 5 true (by simp [hasS, ord, ordV, ordI]))
  have H2 := Lib.hid (HH 0 0 true (by simp [hasS]))
  have H3 := Lib.hid (HH 1 8 false (by simp [hasS, ord, ordV, ordI]))
  clear HH c0
  go_enter Try.func29, Try.ntmps29
  go_wp2_with (first | (go_at_call 31; (with_reducible refine (HA.out _ _ rfl).mono ?_); rintro e w' ⟨rfl, x0, rfl⟩) | (go_at_call_of 36 (Value.int .i64 5); (with_reducible refine (H1.out _).mono ?_); rintro e w' ⟨rfl, x1, rfl⟩) | (go_at_call_of 36 (Value.int .i64 8); (with_reducible refine (H3.out _).mono ?_); rintro e w' ⟨rfl, x3, rfl⟩) | (go_at_call 36; (with_reducible refine (H2.out _).mono ?_); rintro e w' ⟨rfl, x2, rfl⟩))


  go_ret
  exact ⟨rfl, by (show Grew _ _; repeat (first | exact Grew.refl _ | refine Grew.alloc ?_ _ | refine Grew.drew ?_ | refine Grew.more ?_ _))⟩
end Go.Proofs.Ythngafgblehpoaa
