/- Layer 21: numbers that rise, each once: plain mathematics. No condition. -/
import Derived.Test.YtbglmcebkpkccaaGreatDoorHistMath
namespace Go.Proofs.YtbglmcebkpkccaaGreatDoor

def Rising (l : List Int) : Prop := l.Pairwise (· < ·)
theorem Rising.nodup {l : List Int} (h : Rising l) : l.Nodup := List.Pairwise.imp (fun {a b} (h : a < b) => by omega) h
theorem Rising.le {l : List Int} (h : Rising l) : l.Pairwise (· ≤ ·) := List.Pairwise.imp (fun {a b} (h : a < b) => by omega) h
theorem rising_of {l : List Int} (h : l.Pairwise (· ≤ ·)) (hn : l.Nodup) : Rising l :=
  (List.Pairwise.and h hn).imp fun {a b} ⟨h1, h2⟩ => by omega
theorem rising_ext {l m : List Int} (hl : Rising l) (hm : Rising m) (h : ∀ x, x ∈ l ↔ x ∈ m) : l = m :=
  List.Perm.eq_of_pairwise (le := fun a b : Int => a ≤ b) (fun a b _ _ h1 h2 => by omega) hl.le hm.le ((List.perm_ext_iff_of_nodup hl.nodup hm.nodup).2 h)
/-- The numbers of a list, rising, each once. -/
def setI : List Int → List Int
  | [] => []
  | x :: l => if x ∈ l then setI l else sortI (x :: setI l)
theorem setI_mem (l : List Int) (x : Int) : x ∈ setI l ↔ x ∈ l := by
  induction l with
  | nil => simp [setI]
  | cons y l ih =>
    unfold setI
    split
    · rename_i h
      rw [ih, List.mem_cons]
      constructor
      · exact Or.inr
      · rintro (rfl | h') <;> assumption
    · rw [(sortI_perm _).mem_iff, List.mem_cons, List.mem_cons, ih]
theorem setI_rising (l : List Int) : Rising (setI l) := by
  induction l with
  | nil => exact List.Pairwise.nil
  | cons y l ih =>
    unfold setI
    split
    · exact ih
    · rename_i h
      refine rising_of (sortI_pw _) ((sortI_perm _).nodup_iff.2 ?_)
      rw [List.nodup_cons]
      exact ⟨fun hm => h ((setI_mem l y).1 hm), ih.nodup⟩
theorem setI_uniq {m l : List Int} (h : Rising m) (hm : ∀ x, x ∈ m ↔ x ∈ l) : m = setI l :=
  rising_ext h (setI_rising l) fun x => (hm x).trans (setI_mem l x).symm
theorem setI_congr {l m : List Int} (h : ∀ x, x ∈ l ↔ x ∈ m) : setI l = setI m := setI_uniq (setI_rising l) fun x => (setI_mem l x).trans (h x)
theorem setI_self {l : List Int} (h : Rising l) : setI l = l := (setI_uniq h fun _ => Iff.rfl).symm
theorem setI_same_iff (l : List Int) : setI l = l ↔ Rising l := ⟨fun h => h ▸ setI_rising l, setI_self⟩
theorem sortI_setI {l m : List Int} (hn : l.Nodup) (h : ∀ x, x ∈ l ↔ x ∈ m) : sortI l = setI m :=
  setI_uniq (rising_of (sortI_pw l) ((sortI_perm l).nodup_iff.2 hn)) fun x => ((sortI_perm l).mem_iff).trans (h x)
theorem setI_len (l : List Int) : (setI l).length ≤ l.length := by
  induction l with
  | nil => exact Nat.le_refl _
  | cons y l ih =>
    unfold setI
    split
    · simp; omega
    · rw [sortI_len]; simp; omega
/-- One more, put in where it belongs. -/
theorem setI_put {l : List Int} {v : Int} (hv : v ∉ l) (k : Nat) (h1 : ∀ y ∈ (setI l).take k, y < v) (h2 : ∀ y ∈ (setI l).drop k, v ≤ y) : (setI l).take k ++ [v] ++ (setI l).drop k = setI (l ++ [v]) := by
  have hn : v ∉ setI l := fun h => hv ((setI_mem l v).1 h)
  refine setI_uniq ?_ fun x => ?_
  · have hp := setI_rising l
    unfold Rising at *
    rw [List.pairwise_append, List.pairwise_append]
    refine ⟨⟨hp.sublist (List.take_sublist _ _), by simp, fun a ha b hb => ?_⟩, hp.sublist (List.drop_sublist _ _), fun a ha b hb => ?_⟩
    · simp at hb; subst hb; exact h1 a ha
    · rcases List.mem_append.1 ha with ha | ha
      · have := List.take_append_drop k (setI l)
        rw [← this, List.pairwise_append] at hp
        exact hp.2.2 a ha b hb
      · simp at ha
        subst ha
        have h3 := h2 b hb
        have h4 : a ≠ b := fun e => hn (by rw [e]; exact List.mem_of_mem_drop hb)
        omega
  · rw [List.mem_append, List.mem_append, List.mem_append, ← setI_mem l x]
    constructor
    · rintro ((h | h) | h)
      · exact Or.inl (List.mem_of_mem_take h)
      · exact Or.inr h
      · exact Or.inl (List.mem_of_mem_drop h)
    · rintro (h | h)
      · rw [← List.take_append_drop k (setI l)] at h
        rcases List.mem_append.1 h with h | h
        · exact Or.inl (Or.inl h)
        · exact Or.inr h
      · exact Or.inl (Or.inr h)
theorem setI_snoc_in {l : List Int} {v : Int} (hv : v ∈ l) : setI (l ++ [v]) = setI l := setI_congr fun x => by
  rw [List.mem_append, List.mem_singleton]
  constructor
  · rintro (h | h)
    · exact h
    · rw [h]; exact hv
  · exact Or.inl
theorem setI_nil : setI [] = [] := rfl

/-- What both have; has the other one each of it. -/
def sharedI (a b : List Int) : List Int := setI (a.filter fun x => decide (x ∈ b))
theorem sharedI_mem (a b : List Int) (x : Int) : x ∈ sharedI a b ↔ x ∈ a ∧ x ∈ b := by
  unfold sharedI
  rw [setI_mem, List.mem_filter, decide_eq_true_iff]
theorem sharedI_comm (a b : List Int) : sharedI a b = sharedI b a := setI_congr fun x => by simp [and_comm]
def withinI (a b : List Int) : Bool := a.all fun x => decide (x ∈ b)
theorem withinI_iff (a b : List Int) : withinI a b = true ↔ ∀ x ∈ a, x ∈ b := by
  unfold withinI
  rw [List.all_eq_true]
  exact ⟨fun h x hx => by simpa using h x hx, fun h x hx => by simpa using h x hx⟩
theorem withinI_snoc {a b : List Int} {x : Int} (h : withinI a b = true) (hx : x ∈ b) : withinI (a ++ [x]) b = true := by
  rw [withinI_iff] at *
  intro y hy
  rcases List.mem_append.1 hy with hy | hy
  · exact h y hy
  · rw [List.mem_singleton.1 hy]; exact hx
theorem withinI_not {a b : List Int} {x : Int} (h : x ∈ a) (hx : x ∉ b) : withinI a b = false := by
  cases h' : withinI a b
  · rfl
  · exact absurd ((withinI_iff a b).1 h' x h) hx
end Go.Proofs.YtbglmcebkpkccaaGreatDoor
