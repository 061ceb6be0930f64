/- Rows in order: the order of values and of rows is total; a list in order is told by its bag; the document's sort; bags by counting. Plain mathematics. No condition. -/
import Derived.Test.YtklhledcnijchaaDoorCmpB
import Derived.Test.YtklhledcnijchaaDoorOrd5
import Derived.Sort.Statements
import Derived.Shelf.SlSortCmp.Insertion
namespace Go.Proofs.YtklhledcnijchaaDoor
open Go.RowKit

def oV (x y : Vl) : Int := ordV x.k x.i x.s y.k y.i y.s
theorem oV_zero {x y : Vl} : oV x y = 0 ↔ x = y := ordV_zero
theorem oV_anti (a b : Vl) : oV a b = -oV b a := by
  unfold oV ordV
  by_cases h1 : a.k = b.k
  · rw [if_pos h1, if_pos h1.symm]
    by_cases h2 : a.i = b.i
    · rw [if_pos h2, if_pos h2.symm]; exact cmpB_anti _ _
    · rw [if_neg h2, if_neg (fun e => h2 e.symm)]; exact ordI_anti _ _
  · rw [if_neg h1, if_neg (fun e => h1 e.symm)]; exact ordI_anti _ _
theorem oV_trans (a b c : Vl) (h1 : oV a b ≤ 0) (h2 : oV b c ≤ 0) : oV a c ≤ 0 := by
  unfold oV ordV at *
  have h := cmpB_trans a.s.data.toList b.s.data.toList c.s.data.toList
  unfold ordI at *
  by_cases e1 : a.k = b.k
  · by_cases e2 : b.k = c.k
    · rw [if_pos e1] at h1; rw [if_pos e2] at h2; rw [if_pos (e1.trans e2)]
      by_cases e3 : a.i = b.i
      · by_cases e4 : b.i = c.i
        · rw [if_pos e3] at h1; rw [if_pos e4] at h2; rw [if_pos (e3.trans e4)]; exact h h1 h2
        · rw [if_neg e4] at h2; rw [if_neg (by omega)]; (repeat' split at h2) <;> (repeat' split) <;> omega
      · rw [if_neg e3] at h1
        by_cases e4 : b.i = c.i
        · rw [if_neg (by omega)]; (repeat' split at h1) <;> (repeat' split) <;> omega
        · rw [if_neg e4] at h2
          by_cases e5 : a.i = c.i
          · exfalso; (repeat' split at h1) <;> (repeat' split at h2) <;> omega
          · rw [if_neg e5]; (repeat' split at h1) <;> (repeat' split at h2) <;> (repeat' split) <;> omega
    · rw [if_neg e2] at h2; rw [if_neg (by omega)]; (repeat' split at h2) <;> (repeat' split) <;> omega
  · rw [if_neg e1] at h1
    by_cases e2 : b.k = c.k
    · rw [if_neg (by omega)]; (repeat' split at h1) <;> (repeat' split) <;> omega
    · rw [if_neg e2] at h2
      by_cases e5 : a.k = c.k
      · exfalso; (repeat' split at h1) <;> (repeat' split at h2) <;> omega
      · rw [if_neg e5]; (repeat' split at h1) <;> (repeat' split at h2) <;> (repeat' split) <;> omega
theorem oR_cons (x y : Vl) (a b : List Vl) : ordRow (x :: a) (y :: b) = if oV x y = 0 then ordRow a b else oV x y := rfl
theorem oR_anti : ∀ a b : List Vl, ordRow a b = -ordRow b a
  | [], [] => rfl
  | [], _ :: _ => rfl
  | _ :: _, [] => rfl
  | x :: a, y :: b => by
    rw [oR_cons, oR_cons, oR_anti a b]
    have h := oV_anti x y
    by_cases h1 : oV x y = 0
    · rw [if_pos h1, if_pos (by omega)]
    · rw [if_neg h1, if_neg (by omega)]; exact h
theorem oR_zero : ∀ {a b : List Vl}, ordRow a b = 0 → a = b
  | [], [], _ => rfl
  | [], _ :: _, h => by cases h
  | _ :: _, [], h => by cases h
  | x :: a, y :: b, h => by
    rw [oR_cons] at h
    by_cases h1 : oV x y = 0
    · rw [if_pos h1] at h
      rw [oV_zero.1 h1, oR_zero h]
    · rw [if_neg h1] at h
      exact absurd h h1
theorem oR_trans : ∀ a b c : List Vl, ordRow a b ≤ 0 → ordRow b c ≤ 0 → ordRow a c ≤ 0
  | [], _, [] => fun _ _ => Int.le_refl _
  | [], _, _ :: _ => fun _ _ => by show (-1 : Int) ≤ 0; decide
  | _ :: _, [], _ => fun h _ => absurd h (by show ¬ (1 : Int) ≤ 0; decide)
  | _ :: _, _ :: _, [] => fun _ h => absurd h (by show ¬ (1 : Int) ≤ 0; decide)
  | x :: a, y :: b, z :: c => by
    rw [oR_cons, oR_cons, oR_cons]
    intro h1 h2
    by_cases e1 : oV x y = 0
    · rw [if_pos e1] at h1
      have exy := oV_zero.1 e1
      subst exy
      by_cases e2 : oV x z = 0
      · rw [if_pos e2] at h2 ⊢
        exact oR_trans a b c h1 h2
      · rw [if_neg e2] at h2 ⊢
        exact h2
    · rw [if_neg e1] at h1
      by_cases e2 : oV y z = 0
      · have eyz := oV_zero.1 e2
        subst eyz
        rw [if_neg e1]
        exact h1
      · rw [if_neg e2] at h2
        have h3 := oV_trans x y z h1 h2
        by_cases e3 : oV x z = 0
        · have exz := oV_zero.1 e3
          subst exz
          have := oV_anti x y
          omega
        · rw [if_neg e3]
          exact h3
/-- In order. -/
def InO (l : List (List Vl)) : Prop := l.Pairwise fun a b => ordRow a b ≤ 0
theorem inO_one : ∀ {a b : List (List Vl)}, a.Perm b → InO a → InO b → a = b
  | [], b, h, _, _ => by rw [List.nil_perm.1 h]
  | x :: a, [], h, _, _ => by have := h.length_eq; simp at this
  | x :: a, y :: b, h, ha, hb => by
    obtain ⟨ha1, ha2⟩ := List.pairwise_cons.1 ha
    obtain ⟨hb1, hb2⟩ := List.pairwise_cons.1 hb
    have e : x = y := by
      rcases List.mem_cons.1 (h.mem_iff.1 (List.mem_cons_self ..) : x ∈ y :: b) with hx | hx
      · exact hx
      · rcases List.mem_cons.1 (h.mem_iff.2 (List.mem_cons_self ..) : y ∈ x :: a) with hy | hy
        · exact hy.symm
        · have h1 := ha1 y hy
          have h2 := hb1 x hx
          have h3 := oR_anti x y
          exact oR_zero (by omega)
    subst e
    rw [inO_one (List.Perm.cons_inv h) ha2 hb2]
/-- Where a row goes: behind all that do not lie behind it. -/
def insK (out : List (List Vl)) (x : List Vl) : Nat → Nat
  | 0 => 0
  | n + 1 => if 0 < ordRow (out.getD n []) x then insK out x n else n + 1
theorem insK_le (out : List (List Vl)) (x : List Vl) : ∀ n, insK out x n ≤ n
  | 0 => Nat.le_refl _
  | n + 1 => by
    unfold insK
    split
    · exact Nat.le_succ_of_le (insK_le out x n)
    · exact Nat.le_refl _
theorem insK_out (out : List (List Vl)) (x : List Vl) : ∀ n, ∀ j, insK out x n ≤ j → j < n → 0 < ordRow (out.getD j []) x
  | 0 => fun j _ h => by omega
  | n + 1 => fun j h1 h2 => by
    unfold insK at h1
    split at h1
    · rename_i hp
      by_cases hj : j = n
      · rw [hj]; exact hp
      · exact insK_out out x n j h1 (by omega)
    · omega
theorem insK_in (out : List (List Vl)) (x : List Vl) : ∀ n, 0 < insK out x n → ordRow (out.getD (insK out x n - 1) []) x ≤ 0
  | 0 => fun h => absurd h (by unfold insK; omega)
  | n + 1 => fun h => by
    unfold insK at h ⊢
    split
    · rename_i hp
      rw [if_pos hp] at h
      exact insK_in out x n h
    · rename_i hp
      rw [Nat.add_sub_cancel]
      omega
def insR (out : List (List Vl)) (x : List Vl) : List (List Vl) := out.take (insK out x out.length) ++ x :: out.drop (insK out x out.length)
def sortR (l : List (List Vl)) : List (List Vl) := l.foldl insR []
theorem sortR_snoc (l : List (List Vl)) (x : List Vl) : sortR (l ++ [x]) = insR (sortR l) x := by simp [sortR]
theorem insR_perm (out : List (List Vl)) (x : List Vl) : (insR out x).Perm (out ++ [x]) := by
  unfold insR
  have h : (out.take (insK out x out.length) ++ x :: out.drop (insK out x out.length)).Perm (x :: (out.take (insK out x out.length) ++ out.drop (insK out x out.length))) := List.perm_middle
  rw [List.take_append_drop] at h
  exact h.trans (List.perm_append_comm (l₁ := [x]) (l₂ := out))
theorem insR_inO {out : List (List Vl)} {x : List Vl} (h : InO out) : InO (insR out x) := by
  unfold insR
  have hk := insK_le out x out.length
  have h0 := insK_out out x out.length
  have h1 := insK_in out x out.length
  generalize insK out x out.length = k at *
  have hs : InO (out.take k ++ out.drop k) := by rw [List.take_append_drop]; exact h
  obtain ⟨s1, s2, s3⟩ := List.pairwise_append.1 hs
  have hl : ∀ a ∈ out.take k, ordRow a x ≤ 0 := by
    intro a ha
    obtain ⟨i, hi, rfl⟩ := List.getElem_of_mem ha
    have hik : i < k := by rw [List.length_take] at hi; omega
    have hio : i < out.length := by omega
    have h2 := h1 (by omega)
    rw [List.getD_eq_getElem?_getD, List.getElem?_eq_getElem (show k - 1 < out.length by omega), Option.getD_some] at h2
    rw [List.getElem_take]
    by_cases hik2 : i = k - 1
    · subst hik2; exact h2
    · exact oR_trans _ _ _ (List.pairwise_iff_getElem.1 h i (k - 1) hio (by omega) (by omega)) h2
  have hr : ∀ b ∈ out.drop k, ordRow x b ≤ 0 := by
    intro b hb
    obtain ⟨i, hi, rfl⟩ := List.getElem_of_mem hb
    have hi2 : k + i < out.length := by rw [List.length_drop] at hi; omega
    have h2 := h0 (k + i) (by omega) hi2
    rw [List.getD_eq_getElem?_getD, List.getElem?_eq_getElem hi2, Option.getD_some] at h2
    rw [List.getElem_drop]
    have h3 := oR_anti x out[k + i]
    omega
  refine List.pairwise_append.2 ⟨s1, List.pairwise_cons.2 ⟨hr, s2⟩, fun a ha b hb => ?_⟩
  rcases List.mem_cons.1 hb with rfl | hb
  · exact hl a ha
  · exact s3 a ha b hb
theorem sortR_ok (l : List (List Vl)) : ∀ j, j ≤ l.length → InO (sortR (l.take j)) ∧ (sortR (l.take j)).Perm (l.take j)
  | 0, _ => by
    rw [List.take_zero]
    exact ⟨List.Pairwise.nil, List.Perm.refl _⟩
  | j + 1, h => by
    obtain ⟨h1, h2⟩ := sortR_ok l j (by omega)
    rw [List.take_succ_eq_append_getElem (by omega), sortR_snoc]
    exact ⟨insR_inO h1, (insR_perm _ _).trans (h2.append_right _)⟩
theorem sortR_inO (l : List (List Vl)) : InO (sortR l) := by have := (sortR_ok l l.length (Nat.le_refl _)).1; rwa [List.take_length] at this
theorem sortR_perm (l : List (List Vl)) : (sortR l).Perm l := by have := (sortR_ok l l.length (Nat.le_refl _)).2; rwa [List.take_length] at this
theorem sortR_one {m l : List (List Vl)} (h : InO m) (hp : m.Perm l) : m = sortR l := inO_one (hp.trans (sortR_perm l).symm) h (sortR_inO l)
theorem sortR_eq {a b : List (List Vl)} : sortR a = sortR b ↔ a.Perm b :=
  ⟨fun h => (sortR_perm a).symm.trans (h ▸ sortR_perm b), fun h => sortR_one (sortR_inO a) ((sortR_perm a).trans h)⟩
section
open Classical
/-- How often a row is there. -/
noncomputable def cntR (l : List (List Vl)) (r : List Vl) : Nat := l.count r
theorem cntR_nil (r : List Vl) : cntR [] r = 0 := rfl
theorem cntR_take {l : List (List Vl)} {r : List Vl} {j : Nat} (h : j < l.length) : cntR (l.take (j + 1)) r = if l[j] = r then cntR (l.take j) r + 1 else cntR (l.take j) r := by
  unfold cntR
  rw [List.take_succ_eq_append_getElem h, List.count_append, List.count_singleton]
  by_cases hh : l[j] = r
  · simp [hh]
  · simp [hh]
theorem cntR_le (l : List (List Vl)) (r : List Vl) : cntR l r ≤ l.length := List.count_le_length
theorem perm_of_cnt : ∀ {a b : List (List Vl)}, (∀ x ∈ a, cntR a x ≤ cntR b x) → b.length ≤ a.length → a.Perm b
  | [], b, _, hl => by rw [List.eq_nil_of_length_eq_zero (Nat.le_zero.1 hl)]
  | x :: a, b, h, hl => by
    have h1 := h x (List.mem_cons_self ..)
    have hx : x ∈ b := by
      unfold cntR at h1
      rw [List.count_cons_self] at h1
      exact List.count_pos_iff.1 (by omega)
    have hp := List.perm_cons_erase hx
    refine List.Perm.trans (List.Perm.cons x (perm_of_cnt (fun y hy => ?_) ?_)) hp.symm
    · have h2 := h y (List.mem_cons_of_mem _ hy)
      unfold cntR at h2 ⊢
      rw [List.count_cons] at h2
      rw [List.count_erase]
      omega
    · have := hp.length_eq
      rw [List.length_cons] at this hl
      omega
theorem bag_iff {a b : List (List Vl)} : (a.length = b.length ∧ ∀ i (h : i < a.length), cntR a a[i] = cntR b a[i]) ↔ a.Perm b := by
  constructor
  · rintro ⟨h1, h2⟩
    refine perm_of_cnt (fun x hx => ?_) (by omega)
    obtain ⟨i, hi, rfl⟩ := List.getElem_of_mem hx
    exact Nat.le_of_eq (h2 i hi)
  · intro h
    exact ⟨h.length_eq, fun i hi => h.count_eq _⟩
end
theorem ltR {α : Type} (f : α → List Vl) (x y : α) : ltOf (fun x y => ordRow (f x) (f y)) x y = decide (ordRow (f x) (f y) < 0) := rfl
/-- What the library asks of an order. -/
theorem swo_of {α : Type} (f : α → List Vl) : Sort.SWO (ltOf fun x y => ordRow (f x) (f y)) where
  irrefl x := by
    have := oR_anti (f x) (f x)
    rw [ltR, decide_eq_false_iff_not]
    omega
  trans x y z h1 h2 := by
    rw [ltR, decide_eq_true_iff] at *
    have h3 := oR_trans (f x) (f y) (f z) (by omega) (by omega)
    have h4 := oR_anti (f x) (f z)
    have h5 := oR_anti (f y) (f z)
    have h6 := oR_trans (f z) (f x) (f y)
    omega
  ntrans x y z h1 h2 := by
    rw [ltR, decide_eq_false_iff_not] at *
    have h3 := oR_anti (f x) (f y)
    have h4 := oR_anti (f y) (f z)
    have h5 := oR_anti (f x) (f z)
    have h6 := oR_trans (f z) (f y) (f x) (by omega) (by omega)
    omega
end Go.Proofs.YtklhledcnijchaaDoor
