/- Layer 39: the document's own reading, and texts of bytes: plain mathematics. No condition but that bytes are below 256. -/
import Derived.Test.YtcokhgomibimcaaCodeMath4
namespace Go.Proofs.Ytcokhgomibimcaa

theorem getI_out {l : List Nat} {n : Int} (h : n < 0 ∨ l.length ≤ n) : getI l n = (0, 0, false) := by
  unfold getI
  have e : numS (leftS l n) = (0, [], true) := by
    apply numS_none
    unfold leftS
    split
    · rfl
    · rename_i h2
      show scan (l.drop n.toNat) 0 0 = none
      rw [List.drop_of_length_le (by omega)]
      rfl
  rw [e, if_pos rfl]
theorem leftS_in {l : List Nat} {p : Nat} (h : p ≤ l.length) : leftS l p = (l.drop p, false) := by
  unfold leftS
  rw [if_neg (by omega), Int.toNat_natCast]
theorem getI_none {l : List Nat} {p : Nat} (h : p ≤ l.length) (hs : scan (l.drop p) 0 0 = none) : getI l p = (0, 0, false) := by
  unfold getI
  rw [leftS_in h, numS_none hs, if_pos rfl]
theorem getI_some {l : List Nat} {p z n : Nat} (h : p ≤ l.length) (hn : p + n ≤ l.length) (hs : scan (l.drop p) 0 0 = some (z, n)) : getI l p = (uz z, ((p + n : Nat) : Int), true) := by
  unfold getI
  rw [leftS_in h, numS_some hs]
  show (if false = true then _ else (uz z, (l.length : Int) - ((l.drop p).drop n).length, true)) = _
  rw [if_neg (by simp)]
  have e : (l.length : Int) - (((l.drop p).drop n).length : Int) = ((p + n : Nat) : Int) := by
    rw [List.length_drop, List.length_drop]
    omega
  rw [e]
theorem scan_inside {l : List Nat} (hx : bytesOk l) {p z n : Nat} (h : p ≤ l.length) (hs : scan (l.drop p) 0 0 = some (z, n)) : p + n ≤ l.length ∧ z < 18446744073709551616 := by
  have := vb_scan (l.drop p) (fun x hx' => hx x (List.mem_of_mem_drop hx')) z n hs
  have h2 := this.2.2.2
  rw [List.length_drop] at h2
  exact ⟨by omega, this.1⟩
/-- What the loop back has found, behind place i. -/
def zAt (l : List Nat) (p q : Nat) (i : Int) : Nat := valB (((l.drop p).take (q - p + 1)).drop (i + 1 - p).toNat) % 18446744073709551616
theorem zAt_lt (l : List Nat) (p q : Nat) (i : Int) : zAt l p q i < 18446744073709551616 := Nat.mod_lt _ (by decide)
theorem zAt_top (l : List Nat) (p q : Nat) (h : p ≤ q) : zAt l p q q = 0 := by
  unfold zAt
  rw [List.drop_of_length_le]
  · rfl
  · rw [List.length_take]
    have : ((q : Int) + 1 - p).toNat = q - p + 1 := by omega
    omega
theorem zAt_end (l : List Nat) (p q : Nat) : zAt l p q ((p : Int) - 1) = valB ((l.drop p).take (q - p + 1)) % 18446744073709551616 := by
  unfold zAt
  have : ((p : Int) - 1 + 1 - p).toNat = 0 := by omega
  rw [this, List.drop_zero]
theorem zAt_step (l : List Nat) (p q k : Nat) (h1 : p ≤ k) (h2 : k ≤ q) (h3 : q < l.length) : (zAt l p q k * 128 + l[k] % 128) % 18446744073709551616 = zAt l p q ((k : Int) - 1) := by
  unfold zAt
  have e1 : ((k : Int) + 1 - p).toNat = (k - p) + 1 := by omega
  have e2 : ((k : Int) - 1 + 1 - p).toNat = k - p := by omega
  rw [e1, e2]
  have hlen : ((l.drop p).take (q - p + 1)).length = q - p + 1 := by rw [List.length_take, List.length_drop]; omega
  have hk : k - p < ((l.drop p).take (q - p + 1)).length := by omega
  rw [valB_drop _ (k - p) hk]
  have e3 : ((l.drop p).take (q - p + 1))[k - p] = l[k] := by
    rw [List.getElem_take, List.getElem_drop]
    congr 1
    omega
  rw [e3]
  omega
/-- A text of bytes. -/
def strN (l : List Nat) : ByteArray := ⟨(l.map UInt8.ofNat).toArray⟩
theorem strN_append (a b : List Nat) : strN (a ++ b) = strN a ++ strN b := by
  unfold strN
  apply ByteArray.ext
  simp
theorem strN_inj {a b : List Nat} (ha : bytesOk a) (hb : bytesOk b) (h : strN a = strN b) : a = b := by
  unfold strN at h
  have h2 : a.map UInt8.ofNat = b.map UInt8.ofNat := by
    injection h with h
    exact Array.toList_inj.mpr h |> fun h => by simpa using h
  have inv : ∀ l : List Nat, bytesOk l → (l.map UInt8.ofNat).map UInt8.toNat = l := by
    intro l hl
    rw [List.map_map]
    conv => rhs; rw [← List.map_id l]
    apply List.map_congr_left
    intro x hx
    have := hl x hx
    show (UInt8.ofNat x).toNat = x
    simp
    omega
  rw [← inv a ha, ← inv b hb, h2]
theorem strN_size (l : List Nat) : (strN l).size = l.length := by simp [strN, ByteArray.size]
end Go.Proofs.Ytcokhgomibimcaa
