/- Aggregates of values that were parted: what they tell does not hang on the order, nor on the parts. No condition. -/
import Derived.Test.YtddambfniaiogaaAggMath
namespace Go.Proofs.Ytddambfniaiogaa
open Go.RowKit

theorem cmp_trans : ∀ a b c : List UInt8, Lib.compareBytes a b < 0 → Lib.compareBytes b c < 0 → Lib.compareBytes a c < 0
  | [], [], _, h, _ => by simp [Lib.compareBytes] at h
  | [], _ :: _, [], _, h => by simp [Lib.compareBytes] at h
  | [], _ :: _, _ :: _, _, _ => by simp [Lib.compareBytes]
  | _ :: _, [], _, h, _ => by simp [Lib.compareBytes] at h
  | _ :: _, _ :: _, [], _, h => by simp [Lib.compareBytes] at h
  | a :: x, b :: y, c :: z, h1, h2 => by
    have ih := cmp_trans x y z
    rw [cmp_cons] at h1 h2 ⊢
    simp only [UInt8.lt_iff_toNat_lt] at h1 h2 ⊢
    generalize a.toNat = p at *
    generalize b.toNat = q at *
    generalize c.toNat = r at *
    by_cases pq : p < q
    · by_cases qr : q < r
      · rw [if_pos (by omega)]; omega
      · rw [if_neg qr] at h2
        by_cases rq : r < q
        · rw [if_pos rq] at h2; omega
        · rw [if_pos (by omega)]; omega
    · rw [if_neg pq] at h1
      by_cases qp : q < p
      · rw [if_pos qp] at h1; omega
      · rw [if_neg qp] at h1
        by_cases qr : q < r
        · rw [if_pos (by omega)]; omega
        · rw [if_neg qr] at h2
          by_cases rq : r < q
          · rw [if_pos rq] at h2; omega
          · rw [if_neg rq] at h2
            rw [if_neg (by omega), if_neg (by omega)]
            exact ih h1 h2
theorem ordI_lt {a b : Int} : ordI a b < 0 ↔ a < b := by unfold ordI; split <;> (try split) <;> omega
theorem order_lt (x y : Vl) : orderV x y < 0 ↔ x.k < y.k ∨ (x.k = y.k ∧ (x.i < y.i ∨ (x.i = y.i ∧ Lib.compareBytes x.s.data.toList y.s.data.toList < 0))) := by
  unfold orderV ordV
  by_cases h1 : x.k = y.k
  · rw [if_pos h1]
    by_cases h2 : x.i = y.i
    · rw [if_pos h2]
      constructor
      · exact fun h => Or.inr ⟨h1, Or.inr ⟨h2, h⟩⟩
      · rintro (h | ⟨_, h | ⟨_, h⟩⟩)
        · omega
        · omega
        · exact h
    · rw [if_neg h2, ordI_lt]
      constructor
      · exact fun h => Or.inr ⟨h1, Or.inl h⟩
      · rintro (h | ⟨_, h | ⟨h, _⟩⟩)
        · omega
        · exact h
        · omega
  · rw [if_neg h1, ordI_lt]
    constructor
    · exact fun h => Or.inl h
    · rintro (h | ⟨h, _⟩)
      · exact h
      · omega
theorem ordI_gt {a b : Int} : 0 < ordI a b ↔ b < a := by unfold ordI; split <;> (try split) <;> omega
theorem order_gt (x y : Vl) : 0 < orderV x y ↔ orderV y x < 0 := by
  rw [order_lt]
  unfold orderV ordV
  by_cases h1 : x.k = y.k
  · rw [if_pos h1]
    by_cases h2 : x.i = y.i
    · rw [if_pos h2, cmp_swap y.s.data.toList x.s.data.toList]
      constructor
      · exact fun h => Or.inr ⟨h1.symm, Or.inr ⟨h2.symm, by omega⟩⟩
      · rintro (h | ⟨_, h | ⟨_, h⟩⟩) <;> omega
    · rw [if_neg h2, ordI_gt]
      constructor
      · exact fun h => Or.inr ⟨h1.symm, Or.inl h⟩
      · rintro (h | ⟨_, h | ⟨h, _⟩⟩) <;> omega
  · rw [if_neg h1, ordI_gt]
    constructor
    · exact fun h => Or.inl h
    · rintro (h | ⟨h, _⟩) <;> omega
theorem order_trans {x y z : Vl} (h1 : orderV x y < 0) (h2 : orderV y z < 0) : orderV x z < 0 := by
  rw [order_lt] at h1 h2 ⊢
  rcases h1 with h1 | ⟨a1, h1 | ⟨b1, h1⟩⟩ <;> rcases h2 with h2 | ⟨a2, h2 | ⟨b2, h2⟩⟩
  · exact Or.inl (by omega)
  · exact Or.inl (by omega)
  · exact Or.inl (by omega)
  · exact Or.inl (by omega)
  · exact Or.inr ⟨by omega, Or.inl (by omega)⟩
  · exact Or.inr ⟨by omega, Or.inl (by omega)⟩
  · exact Or.inl (by omega)
  · exact Or.inr ⟨by omega, Or.inl (by omega)⟩
  · exact Or.inr ⟨by omega, Or.inr ⟨by omega, cmp_trans _ _ _ h1 h2⟩⟩
theorem order_total {x y : Vl} (h1 : ¬ orderV x y < 0) (h2 : ¬ orderV y x < 0) : x = y := by
  rw [order_lt] at h1 h2
  have hk : x.k = y.k := by
    rcases Int.lt_trichotomy x.k y.k with h | h | h
    · exact absurd (Or.inl h) h1
    · exact h
    · exact absurd (Or.inl h) h2
  have hi : x.i = y.i := by
    rcases Int.lt_trichotomy x.i y.i with h | h | h
    · exact absurd (Or.inr ⟨hk, Or.inl h⟩) h1
    · exact h
    · exact absurd (Or.inr ⟨hk.symm, Or.inl h⟩) h2
  have hs : x.s = y.s := by
    have e1 : ¬ Lib.compareBytes x.s.data.toList y.s.data.toList < 0 := fun h => h1 (Or.inr ⟨hk, Or.inr ⟨hi, h⟩⟩)
    have e2 : ¬ Lib.compareBytes y.s.data.toList x.s.data.toList < 0 := fun h => h2 (Or.inr ⟨hk.symm, Or.inr ⟨hi.symm, h⟩⟩)
    rw [cmp_swap x.s.data.toList y.s.data.toList] at e2
    have e3 := (cmp_zero _ _).1 (show Lib.compareBytes x.s.data.toList y.s.data.toList = 0 by omega)
    exact ByteArray.ext (Array.ext' e3)
  cases x; cases y
  simp only at hk hi hs
  rw [hk, hi, hs]
theorem better_iff (op : Int) (u v : Vl) : betterB op u v = true ↔ (if op = 20 then orderV u v < 0 else orderV v u < 0) := by
  unfold betterB
  by_cases h : op = 20
  · rw [if_pos h, if_pos h]; simp
  · rw [if_neg h, if_neg h]
    simp only [decide_eq_true_eq]
    exact order_gt u v
theorem better_trans {op : Int} {u v x : Vl} (h1 : betterB op u v = true) (h2 : betterB op v x = true) : betterB op u x = true := by
  rw [better_iff] at h1 h2 ⊢
  by_cases h : op = 20
  · rw [if_pos h] at h1 h2 ⊢
    exact order_trans h1 h2
  · rw [if_neg h] at h1 h2 ⊢
    exact order_trans h2 h1
theorem better_total {op : Int} {u v : Vl} (h1 : ¬ betterB op u v = true) (h2 : ¬ betterB op v u = true) : u = v := by
  rw [better_iff] at h1 h2
  by_cases h : op = 20
  · rw [if_pos h] at h1 h2
    exact order_total h1 h2
  · rw [if_neg h] at h1 h2
    exact order_total h2 h1
theorem better_irrefl (op : Int) (u : Vl) : ¬ betterB op u u = true := by
  have hk : ¬ orderV u u < 0 := by
    intro h
    have h2 := (order_gt u u).2 h
    omega
  rw [better_iff]
  split <;> exact hk
def IsBest (op : Int) (m : List Vl) (v : Vl) : Prop := v ∈ m ∧ ∀ u ∈ m, ¬ betterB op u v = true
theorem isBest_one {op : Int} {m m' : List Vl} {v v' : Vl} (hm : ∀ u, u ∈ m ↔ u ∈ m') (h : IsBest op m v) (h' : IsBest op m' v') : v = v' :=
  better_total (h'.2 v ((hm v).1 h.1)) (h.2 v' ((hm v').2 h'.1))
theorem bestL_is (op : Int) (m : List Vl) : m ≠ [] → IsBest op m (bestL op m) := by
  refine list_snoc (P := fun m => m ≠ [] → IsBest op m (bestL op m)) (fun h => absurd rfl h) (fun m x ih _ => ?_) m
  rw [bestL_snoc]
  by_cases h0 : m = []
  · subst h0
    rw [if_pos (show ([] : List Vl).length = 0 ∨ _ from Or.inl rfl)]
    refine ⟨by simp, fun u hu => ?_⟩
    simp only [List.nil_append, List.mem_cons, List.not_mem_nil, or_false] at hu
    subst hu
    exact better_irrefl op _
  · have ih := ih h0
    have hl : ¬ m.length = 0 := fun h => h0 (List.eq_nil_of_length_eq_zero h)
    by_cases hb : betterB op x (bestL op m) = true
    · rw [if_pos (Or.inr hb)]
      refine ⟨by simp, fun u hu => ?_⟩
      rcases List.mem_append.1 hu with h | h
      · exact fun hux => ih.2 u h (better_trans hux hb)
      · rw [List.mem_singleton.1 h]; exact better_irrefl op _
    · rw [if_neg (by rintro (h | h); exact hl h; exact hb h)]
      refine ⟨List.mem_append_left _ ih.1, fun u hu => ?_⟩
      rcases List.mem_append.1 hu with h | h
      · exact ih.2 u h
      · rw [List.mem_singleton.1 h]; exact hb
theorem bestL_mem {op : Int} {m m' : List Vl} (hm : ∀ u, u ∈ m ↔ u ∈ m') : bestL op m = bestL op m' := by
  by_cases h : m = []
  · subst h
    have : m' = [] := by
      cases m' with
      | nil => rfl
      | cons x l => exact absurd ((hm x).2 (by simp)) (by simp)
    rw [this]
  · have h' : m' ≠ [] := by
      intro e
      subst e
      cases m with
      | nil => exact h rfl
      | cons x l => exact absurd ((hm x).1 (by simp)) (by simp)
    exact isBest_one hm (bestL_is op m h) (bestL_is op m' h')
theorem sumL_cons (x : Int) (l : List Int) : sumL (x :: l) = x + sumL l := by
  have h : ∀ (m : List Int) (a : Int), m.foldl (· + ·) a = a + m.foldl (· + ·) 0 := by
    intro m
    induction m with
    | nil => intro a; simp
    | cons x m ih =>
      intro a
      rw [List.foldl_cons, List.foldl_cons, ih (a + x), ih (0 + x)]
      omega
  unfold sumL
  rw [List.foldl_cons, h l]
  omega
theorem sumL_perm {l m : List Int} (h : l.Perm m) : sumL l = sumL m := by
  induction h with
  | nil => rfl
  | cons x _ ih => rw [sumL_cons, sumL_cons, ih]
  | swap x y l => rw [sumL_cons, sumL_cons, sumL_cons, sumL_cons]; omega
  | trans _ _ h1 h2 => exact h1.trans h2
theorem sumL_app (l m : List Int) : sumL (l ++ m) = sumL l + sumL m := by
  induction l with
  | nil => simp [sumL]
  | cons x l ih => rw [List.cons_append, sumL_cons, sumL_cons, ih]; omega
theorem defS_perm {op : Int} {l l' : List Vl} (h : l.Perm l') : defS op l = defS op l' := by
  have hs : (someL l).Perm (someL l') := h.filter _
  have hn : (numL (someL l)).Perm (numL (someL l')) := (hs.filter _).map _
  unfold defS
  rw [h.length_eq, hs.length_eq, sumL_perm hn, hn.length_eq, bestL_mem (op := op) (fun u => hs.mem_iff)]
  congr 1
  rw [Bool.eq_iff_iff, List.any_eq_true, List.any_eq_true]
  constructor
  · rintro ⟨x, hx, e⟩; exact ⟨x, hs.mem_iff.1 hx, e⟩
  · rintro ⟨x, hx, e⟩; exact ⟨x, hs.mem_iff.2 hx, e⟩
/-- Two states, made one. -/
def mergeS (a b : AccS) : AccS :=
  if ¬ a.op = b.op then a else ⟨a.op, a.rows + b.rows, a.whole + b.whole, a.wrong || b.wrong, a.z + b.z, a.zn + b.zn, if a.whole = 0 ∨ (0 < b.whole ∧ betterB a.op b.best a.best = true) then b.best else a.best⟩
theorem mergeS_other {a b : AccS} (h : ¬ a.op = b.op) : mergeS a b = a := if_pos h
theorem someL_app (l m : List Vl) : someL (l ++ m) = someL l ++ someL m := List.filter_append ..
theorem numL_app (l m : List Vl) : numL (l ++ m) = numL l ++ numL m := by unfold numL; rw [List.filter_append, List.map_append]
theorem mergeS_def (op : Int) (l m : List Vl) : mergeS (defS op l) (defS op m) = defS op (l ++ m) := by
  unfold mergeS
  rw [if_neg (by simp [defS])]
  unfold defS
  simp only [AccS.mk.injEq, true_and, someL_app, numL_app, List.length_append, List.any_append, sumL_app]
  generalize someL l = p
  generalize someL m = q
  by_cases hp : p = []
  · subst hp
    rw [if_pos (show ([] : List Vl).length = 0 ∨ _ from Or.inl rfl), List.nil_append]
  · have hp0 : ¬ p.length = 0 := fun h => hp (List.eq_nil_of_length_eq_zero h)
    by_cases hq : q = []
    · subst hq
      rw [if_neg (by simp [hp]), List.append_nil]
    · have hq0 : 0 < q.length := by
        rcases Nat.eq_zero_or_pos q.length with h | h
        · exact absurd (List.eq_nil_of_length_eq_zero h) hq
        · exact h
      have bp := bestL_is op p hp
      have bq := bestL_is op q hq
      refine isBest_one (fun u => Iff.rfl) ?_ (bestL_is op (p ++ q) (by simp [hp]))
      by_cases hb : betterB op (bestL op q) (bestL op p) = true
      · rw [if_pos (Or.inr ⟨hq0, hb⟩)]
        refine ⟨List.mem_append_right _ bq.1, fun u hu => ?_⟩
        rcases List.mem_append.1 hu with h | h
        · exact fun hux => bp.2 u h (better_trans hux hb)
        · exact bq.2 u h
      · rw [if_neg (by rintro (h | ⟨_, h⟩); exact hp0 h; exact hb h)]
        refine ⟨List.mem_append_left _ bp.1, fun u hu => ?_⟩
        rcases List.mem_append.1 hu with h | h
        · exact bp.2 u h
        · intro hux
          by_cases hc : betterB op (bestL op q) u = true
          · exact hb (better_trans hc hux)
          · have := better_total (bq.2 u h) hc
            subst this
            exact hb hux
theorem rev_drop {b : List Vl} {r : Nat} (h : r < b.length) : (b.drop r).reverse = (b.drop (r + 1)).reverse ++ [b[r]] := by
  rw [List.drop_eq_getElem_cons h, List.reverse_cons]
end Go.Proofs.Ytddambfniaiogaa
