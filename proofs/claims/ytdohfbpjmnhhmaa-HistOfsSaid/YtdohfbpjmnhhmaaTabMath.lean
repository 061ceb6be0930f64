/- Which tables may be: plain mathematics. No condition. -/
import Derived.Test.YtdohfbpjmnhhmaaTab
import Derived.Test.YtdohfbpjmnhhmaaName
import Derived.Test.YtdohfbpjmnhhmaaRight
namespace Go.Proofs.Ytdohfbpjmnhhmaa
open Classical

/-- The first number that is not zero. -/
def firstE (f : Nat → Int) : Nat → Int
  | 0 => 0
  | n + 1 => if firstE f n = 0 then f n else firstE f n
theorem firstE_zero {f : Nat → Int} : ∀ {n : Nat} (_ : ∀ i, i < n → f i = 0), firstE f n = 0
  | 0, _ => rfl
  | n + 1, h => by rw [firstE, if_pos (firstE_zero fun i hi => h i (by omega))]; exact h n (by omega)
theorem firstE_at {f : Nat → Int} {i : Nat} (h0 : ∀ j, j < i → f j = 0) {e : Int} (he : f i = e) (hn : e ≠ 0) : ∀ {n : Nat} (_ : i < n), firstE f n = e
  | 0, h => by omega
  | n + 1, h => by
    rw [firstE]
    rcases Nat.lt_or_ge i n with h1 | h1
    · rw [firstE_at h0 he hn h1, if_neg hn]
    · have : i = n := by omega
      subst this
      rw [firstE_zero h0, if_pos rfl]; exact he
/-- What is wrong with a column behind others. -/
noncomputable def colBad (ahead : List Cl) (x : Cl) : Int :=
  if nameB x.name = false ∨ ∃ y ∈ ahead, y.name = x.name then 2 else if ¬ x.kind = 1 ∧ ¬ x.kind = 2 then 3 else 0
noncomputable def colsE (cs : List Cl) : Int := firstE (fun i => colBad (cs.take i) (cs.getD i default)) cs.length
noncomputable def headE (ahead : List Tb) (t : Tb) : Int :=
  if nameB t.name = false ∨ ∃ y ∈ ahead, y.name = t.name then 2 else if t.cols.length = 0 ∨ 16 < t.cols.length ∨ 65536 < t.rows.length then 4 else colsE t.cols
/-- May one value be in a column of a kind? -/
def fitC (kind : Int) (v : Vl) : Prop := rightV v.k v.i v.s = true ∧ (v.k = 0 ∨ v.k = kind)
def fitB (kinds : List Int) (r : List Vl) : Prop := r.length = kinds.length ∧ ∀ i, i < r.length → fitC (kinds.getD i 0) (r.getD i default)
noncomputable def tabE (ahead : List Tb) (t : Tb) : Int := if headE ahead t = 0 then (if ∀ r ∈ t.rows, fitB (t.cols.map Cl.kind) r then 0 else 3) else headE ahead t
noncomputable def checkE (db : List Tb) : Int := if 16 < db.length then 4 else firstE (fun i => tabE (db.take i) (db.getD i default)) db.length
theorem getD_of {α : Type} {l : List α} {i : Nat} (h : i < l.length) (d : α) : l.getD i d = l[i] := by
  simp [List.getD, h]
/-- One step of a search for the first that is wrong. -/
theorem first_next {f : Nat → Int} {j : Nat} (h : ∀ i, i < j → f i = 0) (hj : f j = 0) : ∀ i, i < j + 1 → f i = 0 := by
  intro i hi
  rcases Nat.lt_or_ge i j with h1 | h1
  · exact h i h1
  · have : i = j := by omega
    subst this; exact hj
/-- The place of the first of a name. -/
def Idx (ns : List ByteArray) (n : ByteArray) (z : Int) : Prop := (∃ i : Nat, z = (i : Int) ∧ ∃ h : i < ns.length, ns[i] = n ∧ ∀ j (hj : j < i), ¬ ns[j]'(by omega) = n) ∨ (z = -1 ∧ ∀ x ∈ ns, ¬ x = n)
theorem Idx.is {ns : List ByteArray} {n : ByteArray} {z : Int} (h : Idx ns n z) : 0 ≤ z ↔ ∃ x ∈ ns, x = n := by
  rcases h with ⟨i, rfl, hi, h1, _⟩ | ⟨rfl, h1⟩
  · exact ⟨fun _ => ⟨_, List.getElem_mem hi, h1⟩, fun _ => by omega⟩
  · exact ⟨fun h => by omega, fun ⟨x, hx, he⟩ => absurd he (h1 x hx)⟩
theorem dup_cl {l : List Cl} {n : ByteArray} {z : Int} (h : Idx (l.map Cl.name) n z) : 0 ≤ z ↔ ∃ y ∈ l, y.name = n := by
  rw [h.is]
  simp
theorem dup_tb {l : List Tb} {n : ByteArray} {z : Int} (h : Idx (l.map Tb.name) n z) : 0 ≤ z ↔ ∃ y ∈ l, y.name = n := by
  rw [h.is]
  simp
end Go.Proofs.Ytdohfbpjmnhhmaa
