/- Rows of whole structs in memory: what lies there, and what keeps it. No condition. -/
import Derived.Test.YtoaciliojdaoaaaApp2
namespace Go.Proofs.Ytoaciliojdaoaaa
open Go.RowKit

/-- How rows are known: by their type, their address and their cells. -/
abbrev Rw := TypeId → Option Addr → List Value → Prop
def PRow (w : World) : Rw := fun _ A xs => Row w A xs
/-- A row in a block of its type, from block B on. -/
def TRow (B : Nat) (w : World) : Rw := fun e A xs => xs = [] ∨ ∃ b o cur, A = some ⟨b, o, none⟩ ∧ B ≤ b ∧ w.heap[b]? = some (.cells cur e (0, 0)) ∧ ∀ (j : Nat) (u : Value), xs[j]? = some u → cur[o + j]? = some u
section
variable {B : Nat} {w w' : World} {e : TypeId} {A : Option Addr} {xs : List Value}
theorem heap_lt {b : Nat} {o : Obj} (h : w.heap[b]? = some o) : b < w.heap.size := by
  rcases Nat.lt_or_ge b w.heap.size with hlt | hge
  · exact hlt
  · rw [Array.getElem?_eq_none hge] at h; cases h
theorem TRow.plain (h : TRow B w e A xs) : Row w A xs := by
  rcases h with h | ⟨b, o, cur, hA, _, hh, hc⟩
  · exact Or.inl h
  · exact Or.inr ⟨b, o, hA, heap_lt hh, fun j u hu => by rw [cell_of_row w b (o + j) cur e (0, 0) hh]; exact hc j u hu⟩
theorem TRow.block (h : TRow B w e A xs) (hb : ∀ (b : Nat) (cur : Array Value), B ≤ b → w.heap[b]? = some (.cells cur e (0, 0)) → w'.heap[b]? = w.heap[b]?) : TRow B w' e A xs := by
  rcases h with h | ⟨b, o, cur, hA, h1, hh, hc⟩
  · exact Or.inl h
  · exact Or.inr ⟨b, o, cur, hA, h1, by rw [hb b cur h1 hh]; exact hh, hc⟩
theorem TRow.turns {g : Nat} (h : TRow B w e A xs) (k : Turns w w' g) (hg : g < B) : TRow B w' e A xs :=
  h.block fun b _ hb hh => k.block b (heap_lt hh) (by omega)
theorem TRow.apart {b : Nat} {e' : TypeId} {cs : Array Value} (h : TRow B w e A xs) (k : Turns w w' b) (hb : Blok w b e' cs) (hne : e ≠ e') : TRow B w' e A xs :=
  h.block fun i _ _ hh => k.block i (heap_lt hh) fun he => by
    subst he
    unfold Blok at hb
    rw [hh] at hb
    injection hb with hb
    injection hb with _ h2 _
    exact hne h2
theorem TRow.grew (h : TRow B w e A xs) (k : Grew w w') : TRow B w' e A xs := by
  obtain ⟨x, rfl⟩ := k
  exact h.block fun b _ _ hh => more_block w x b (heap_lt hh)
theorem TRow.grown {e' : TypeId} {base size n : Nat} {v : Value} {ys : List Value} (h : TRow B w e A xs) (ho : w.ownsRow base e' size v n ys) (hne : e ≠ e') (k : w.grownBy w' v.ownBlock) : TRow B w' e A xs :=
  h.block fun b cur _ hh => k.block b (heap_lt hh) fun he => by
    rcases ho.2 with ⟨rfl, _⟩ | ⟨q, cap, cur2, rfl, _, hh2, _⟩
    · cases he
    · simp [Value.ownBlock] at he
      subst he
      rw [hh] at hh2
      injection hh2 with hh2
      injection hh2 with _ h2 _
      exact hne h2
theorem TRow.own {size n c : Nat} (ho : w.ownsRow B e size (.slice A n c) n xs) : TRow B w e A xs := by
  rcases ho.2 with ⟨h1, h2⟩ | ⟨q, cap, cur, h1, h2, h3, h4, h5, h6, h7⟩
  · exact Or.inl (List.eq_nil_of_length_eq_zero (by rw [ho.1, h2, Nat.zero_mul]))
  · injection h1 with h1 _ _
    refine Or.inr ⟨q, 0, cur, h1, h2, h3, fun j u hu => ?_⟩
    rw [← h7] at hu
    have hj : j < n * size := by
      rcases Nat.lt_or_ge j (n * size) with h | h
      · exact h
      · rw [List.getElem?_eq_none (by rw [List.length_take]; omega)] at hu; cases hu
    rw [List.getElem?_take_of_lt hj] at hu
    rw [Nat.zero_add]
    simpa using hu
theorem TRow.low {B' : Nat} (h : TRow B w e A xs) (hb : B' ≤ B) : TRow B' w e A xs := by
  rcases h with h | ⟨b, o, cur, hA, h1, h2⟩
  · exact Or.inl h
  · exact Or.inr ⟨b, o, cur, hA, Nat.le_trans hb h1, h2⟩
end

/-- Things one by one, each by its cells, so many each. -/
def ListR {α : Type} (R : α → List Value → Prop) (size : Nat) (l : List α) (css : List (List Value)) : Prop :=
  css.length = l.length ∧ ∀ (i : Nat) (x : α) (cs : List Value), l[i]? = some x → css[i]? = some cs → R x cs ∧ cs.length = size
section
variable {α : Type} {R R' : α → List Value → Prop} {size : Nat} {l : List α} {css : List (List Value)}
theorem ListR.nil : ListR R size ([] : List α) [] := ⟨rfl, fun i x cs h => by simp at h⟩
theorem ListR.map (h : ListR R size l css) (H : ∀ x cs, R x cs → R' x cs) : ListR R' size l css :=
  ⟨h.1, fun i x cs h1 h2 => ⟨H _ _ (h.2 i x cs h1 h2).1, (h.2 i x cs h1 h2).2⟩⟩
theorem ListR.snoc (h : ListR R size l css) {x : α} {cs : List Value} (hr : R x cs) (hs : cs.length = size) : ListR R size (l ++ [x]) (css ++ [cs]) := by
  refine ⟨by simp [h.1], fun i y ds h1 h2 => ?_⟩
  rcases Nat.lt_or_ge i l.length with hi | hi
  · rw [List.getElem?_append_left hi] at h1
    rw [List.getElem?_append_left (by rw [h.1]; exact hi)] at h2
    exact h.2 i y ds h1 h2
  · rw [List.getElem?_append_right hi] at h1
    rw [List.getElem?_append_right (by rw [h.1]; exact hi), h.1] at h2
    have h0 : i - l.length = 0 := by
      rcases Nat.eq_zero_or_pos (i - l.length) with h | h
      · exact h
      · rw [List.getElem?_eq_none (by simp; omega)] at h1; cases h1
    rw [h0] at h1 h2
    simp at h1 h2
    subst h1 h2
    exact ⟨hr, hs⟩
theorem ListR.flat (h : ListR R size l css) : css.flatten.length = l.length * size := by
  have : ∀ (css : List (List Value)), (∀ cs ∈ css, cs.length = size) → css.flatten.length = css.length * size := by
    intro css
    induction css with
    | nil => intro _; simp
    | cons c css ih =>
      intro hc
      rw [List.flatten_cons, List.length_append, List.length_cons, ih (fun cs h => hc cs (by simp [h])), hc c (by simp), Nat.add_mul, Nat.one_mul, Nat.add_comm]
  rw [this css, h.1]
  intro cs hcs
  obtain ⟨i, hi, rfl⟩ := List.mem_iff_getElem.1 hcs
  exact (h.2 i (l[i]'(by rw [← h.1]; exact hi)) _ (List.getElem?_eq_getElem _) (List.getElem?_eq_getElem hi)).2
theorem flatten_at : ∀ (css : List (List Value)) (size : Nat) (_ : ∀ cs ∈ css, cs.length = size) (i j : Nat) (cs : List Value) (u : Value), css[i]? = some cs → cs[j]? = some u → css.flatten[i * size + j]? = some u
  | [], size, _, i, j, cs, u, h1, _ => by simp at h1
  | c :: css, size, hc, i, j, cs, u, h1, h2 => by
    have hcl : c.length = size := hc c (by simp)
    rw [List.flatten_cons]
    rcases i with _ | i
    · simp at h1
      subst h1
      have hj : j < c.length := by
        rcases Nat.lt_or_ge j c.length with h | h
        · exact h
        · rw [List.getElem?_eq_none h] at h2; cases h2
      rw [Nat.zero_mul, Nat.zero_add, List.getElem?_append_left hj]
      exact h2
    · simp at h1
      have e : (i + 1) * size + j - c.length = i * size + j := by rw [hcl, Nat.add_mul]; omega
      rw [List.getElem?_append_right (by rw [hcl, Nat.add_mul]; omega), e]
      exact flatten_at css size (fun x hx => hc x (by simp [hx])) i j cs u h1 h2
theorem ListR.all (h : ListR R size l css) : ∀ cs ∈ css, cs.length = size := by
  intro cs hcs
  obtain ⟨i, hi, rfl⟩ := List.mem_iff_getElem.1 hcs
  exact (h.2 i (l[i]'(by rw [← h.1]; exact hi)) _ (List.getElem?_eq_getElem _) (List.getElem?_eq_getElem hi)).2
/-- One of them, in memory. -/
theorem ListR.at_ (h : ListR R size l css) {w : World} {A : Option Addr} (hr : Row w A css.flatten) (hs : 0 < size) {i : Nat} (hi : i < l.length) :
    ∃ b o cs, A = some ⟨b, o, none⟩ ∧ b < w.heap.size ∧ R l[i] cs ∧ cs.length = size ∧ ∀ j u, cs[j]? = some u → w.cell? ⟨b, o + (i * size + j), none⟩ = some u := by
  have hi' : i < css.length := by rw [h.1]; exact hi
  have hx := h.2 i l[i] css[i] (List.getElem?_eq_getElem hi) (List.getElem?_eq_getElem hi')
  rcases hr with hr | ⟨b, o, hA, hb, hc⟩
  · exfalso
    have e := h.flat
    rw [hr] at e
    have : 0 < l.length * size := Nat.mul_pos (by omega) hs
    simp at e
    omega
  · exact ⟨b, o, css[i], hA, hb, hx.1, hx.2, fun j u hu => hc _ u (flatten_at css size h.all i j css[i] u (List.getElem?_eq_getElem hi') hu)⟩
end
end Go.Proofs.Ytoaciliojdaoaaa
