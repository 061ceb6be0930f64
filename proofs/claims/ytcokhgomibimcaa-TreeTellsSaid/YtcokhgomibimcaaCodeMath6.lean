/- Layer 39: the document's own count and numbers: plain mathematics. No condition but that bytes are below 256. -/
import Derived.Test.YtcokhgomibimcaaCodeMath5
namespace Go.Proofs.Ytcokhgomibimcaa

theorem getI_step {l : List Nat} (hx : bytesOk l) {p : Nat} (h : p ≤ l.length) :
    (getI l p = (0, 0, false) ∧ numS (l.drop p, false) = (0, [], true)) ∨ ∃ v, ∃ q : Nat, q ≤ l.length ∧ getI l p = (v, (q : Int), true) ∧ numS (l.drop p, false) = (v, l.drop q, false) := by
  rcases hs : scan (l.drop p) 0 0 with _ | ⟨z, n⟩
  · exact Or.inl ⟨getI_none h hs, numS_none hs⟩
  · have h2 := scan_inside hx h hs
    refine Or.inr ⟨uz z, p + n, h2.1, getI_some h h2.1 hs, ?_⟩
    rw [numS_some (s := (l.drop p, false)) hs]
    simp [List.drop_drop]
/-- The document's own count. -/
def rcnt (l : List Nat) (n : Int) : Int × Int × Bool := if (getI l n).2.2 = false ∨ (getI l n).1 < 0 ∨ (l.length : Int) - (getI l n).2.1 < (getI l n).1 then (0, 0, false) else getI l n
theorem getI_any {l : List Nat} (hx : bytesOk l) (n : Int) :
    (getI l n = (0, 0, false) ∧ numS (leftS l n) = (0, [], true)) ∨ ∃ v, ∃ q : Nat, q ≤ l.length ∧ getI l n = (v, (q : Int), true) ∧ numS (leftS l n) = (v, l.drop q, false) := by
  by_cases h : n < 0 ∨ l.length < n
  · refine Or.inl ⟨getI_out (by omega), ?_⟩
    unfold leftS
    rw [if_pos h]
    rfl
  · obtain ⟨p, rfl⟩ : ∃ p : Nat, n = p := ⟨n.toNat, by omega⟩
    have hp : p ≤ l.length := by omega
    rw [leftS_in hp]
    exact getI_step hx hp
theorem numsS_stay (s : List Nat × Bool) (j i : Nat) (h : (numsS j s).2.2 = true) : (numsS (j + i) s).2.2 = true := by
  induction i with
  | zero => exact h
  | succ i ih => exact numS_failed ih
theorem rcnt_any {l : List Nat} (hx : bytesOk l) (n : Int) :
    (rcnt l n = (0, 0, false) ∧ getIs l n = ([], 0, false)) ∨ ∃ k p : Nat, p + k ≤ l.length ∧ rcnt l n = ((k : Int), (p : Int), true) ∧ intsS (leftS l n) = numsS k (l.drop p, false) := by
  rcases getI_any hx n with ⟨h1, h2⟩ | ⟨v, q, hq, h1, h2⟩
  · refine Or.inl ⟨by unfold rcnt; rw [h1]; rfl, ?_⟩
    have e : cntS (leftS l n) = (0, [], true) := by unfold cntS; rw [h2]; rfl
    have e2 : (intsS (leftS l n)).2.2 = true := by unfold intsS; rw [e]; rfl
    unfold getIs
    rw [if_pos e2]
  · by_cases hc : v < 0 ∨ (l.length : Int) - q < v
    · refine Or.inl ⟨by unfold rcnt; rw [h1]; exact if_pos (Or.inr hc), ?_⟩
      have e : cntS (leftS l n) = (0, [], true) := by
        unfold cntS
        rw [h2]
        refine if_pos ?_
        simp only [List.length_drop]
        omega
      have e2 : (intsS (leftS l n)).2.2 = true := by unfold intsS; rw [e]; rfl
      unfold getIs
      rw [if_pos e2]
    · refine Or.inr ⟨v.toNat, q, by omega, ?_, ?_⟩
      · unfold rcnt
        rw [h1, if_neg (fun h => h.elim (fun h => by cases h) hc), Int.toNat_of_nonneg (by omega)]
      · have e : cntS (leftS l n) = (v.toNat, l.drop q, false) := by
          unfold cntS
          rw [h2]
          refine if_neg ?_
          simp only [List.length_drop]
          omega
        unfold intsS
        rw [e]
theorem getIs_of {l : List Nat} {n : Int} {k p nx : Nat} {ls : List Int} (h : intsS (leftS l n) = numsS k (l.drop p, false)) (h2 : numsS k (l.drop p, false) = (ls, l.drop nx, false)) (hn : nx ≤ l.length) : getIs l n = (ls, (nx : Int), true) := by
  unfold getIs
  rw [h, h2, if_neg (by simp)]
  simp only [List.length_drop]
  congr 2
  omega
theorem getIs_bad {l : List Nat} {n : Int} {k p j : Nat} (h : intsS (leftS l n) = numsS k (l.drop p, false)) (hj : j ≤ k) (h2 : (numsS j (l.drop p, false)).2.2 = true) : getIs l n = ([], 0, false) := by
  unfold getIs
  have := numsS_stay _ j (k - j) h2
  rw [show j + (k - j) = k by omega] at this
  rw [h, if_pos this]
/-- What is put is got. -/
theorem numS_put (z : Nat) (hz : z < 18446744073709551616) (r : List Nat) (f : Bool) : numS (vb z ++ r, f) = (uz z, r, f) := by
  rw [numS_some (s := (vb z ++ r, f)) (scan_vb z hz r)]
  simp
def small64 (n : Int) : Prop := -9223372036854775808 ≤ n ∧ n ≤ 9223372036854775807
theorem getI_put (b : List Nat) (n : Int) (h : small64 n) : getI (b ++ vb (zz n)) b.length = (n, ((b ++ vb (zz n)).length : Int), true) := by
  have e : numS (leftS (b ++ vb (zz n)) b.length) = (n, [], false) := by
    rw [leftS_in (by simp), List.drop_left]
    have := numS_put (zz n) (zz_lt n h.1 h.2) [] false
    rw [List.append_nil, uz_zz] at this
    exact this
  unfold getI
  rw [e]
  simp
theorem numsS_put (l : List Int) (h : ∀ n ∈ l, small64 n) (r : List Nat) (f : Bool) : ∀ j, j ≤ l.length → numsS j ((l.map fun n => vb (zz n)).flatten ++ r, f) = (l.take j, ((l.drop j).map fun n => vb (zz n)).flatten ++ r, f) := by
  intro j
  induction j with
  | zero => intro _; simp [numsS]
  | succ j ih =>
    intro hj
    have h1 := ih (by omega)
    have h2 : l.drop j = l[j] :: l.drop (j + 1) := List.drop_eq_getElem_cons (by omega)
    have h3 := h l[j] (List.getElem_mem (by omega))
    have h4 := numS_put (zz l[j]) (zz_lt _ h3.1 h3.2) (((l.drop (j + 1)).map fun n => vb (zz n)).flatten ++ r) f
    rw [uz_zz] at h4
    unfold numsS
    rw [h1]
    show ((l.take j) ++ [(numS (((l.drop j).map fun n => vb (zz n)).flatten ++ r, f)).1], (numS (((l.drop j).map fun n => vb (zz n)).flatten ++ r, f)).2) = _
    rw [h2, List.map_cons, List.flatten_cons, List.append_assoc, h4, List.take_succ_eq_append_getElem (by omega)]
theorem vbs_len (l : List Int) : l.length ≤ ((l.map fun n => vb (zz n)).flatten).length := by
  induction l with
  | nil => simp
  | cons n l ih =>
    rw [List.map_cons, List.flatten_cons, List.length_append, List.length_cons]
    have := vb_len (zz n)
    omega
theorem intsS_put (l : List Int) (h : ∀ n ∈ l, small64 n) (hl : l.length ≤ 1000000) (r : List Nat) (f : Bool) : intsS (vbs l ++ r, f) = (l, r, f) := by
  have hz : small64 (l.length : Int) := ⟨by omega, by omega⟩
  have e : cntS (vbs l ++ r, f) = (l.length, (l.map fun n => vb (zz n)).flatten ++ r, f) := by
    have e1 : numS (vbs l ++ r, f) = ((l.length : Int), (l.map fun n => vb (zz n)).flatten ++ r, f) := by
      unfold vbs
      rw [List.append_assoc]
      have := numS_put (zz l.length) (zz_lt _ hz.1 hz.2) ((l.map fun n => vb (zz n)).flatten ++ r) f
      rw [uz_zz] at this
      exact this
    unfold cntS
    rw [e1, if_neg]
    · simp
    · have := vbs_len l
      simp only [List.length_append]
      omega
  unfold intsS
  rw [e]
  show numsS l.length ((l.map fun n => vb (zz n)).flatten ++ r, f) = _
  rw [numsS_put l h r f l.length (Nat.le_refl _)]
  simp
theorem getIs_put (b : List Nat) (l : List Int) (h : ∀ n ∈ l, small64 n) (hl : l.length ≤ 1000000) : getIs (b ++ vbs l) b.length = (l, ((b ++ vbs l).length : Int), true) := by
  have e : intsS (leftS (b ++ vbs l) b.length) = (l, [], false) := by
    rw [leftS_in (by simp), List.drop_left]
    have := intsS_put l h hl [] false
    rw [List.append_nil] at this
    exact this
  unfold getIs
  rw [e]
  simp
end Go.Proofs.Ytcokhgomibimcaa
