/- Layer 21: is a number in a list, by the document. Condition: no more than a million numbers. -/
import Derived.Test.YtbglmcebkpkccaaDoorIter
import Derived.Test.YtbglmcebkpkccaaDoorSame
import Derived.Test.YtbglmcebkpkccaaDoorHistMath
import Derived.Test.YtbglmcebkpkccaaDoorMix

/- Layer 27: numbers sorted by the library, and how many marks are below a number. Condition: no more than a million of them. -/
namespace Go.Proofs.YtbglmcebkpkccaaDoor
open Go.RowKit
attribute [local go_sem] more_cell more_frozen more_more more_setCell more_of_drew more_of_drewN lt_more le_more past_cell past_cell2 past_frozen past_frozen2 past_setCell past_setCell2 mid_cell mid_frozen mid_setCell
attribute [local go_sem ↓] Go.wp_at_zero Go.wp_at_succ

/-- Numbers that come back in a row. -/
def IntsF (w : World) (l : List Int) (e : Ending) (w' : World) : Prop := ∃ A k, e = .returned (.slice A l.length k) ∧ Grew w w' ∧ Row w' A (iV l)
theorem rowI_at {w : World} {A : Option Addr} {l : List Int} (h : Row w A (iV l)) {j : Nat} (hj : j < l.length) : ∃ b o, A = some ⟨b, o, none⟩ ∧ b < w.heap.size ∧ w.cell? ⟨b, o + j, none⟩ = some (.int .i64 l[j]) := by
  obtain ⟨b, o, rfl⟩ := irow_some h hj
  obtain ⟨h1, h2⟩ := irow_cell h hj rfl
  exact ⟨b, o, rfl, h1, h2⟩
def BelAt (w : World) (l : List Int) (n : Int) (c i : Value) (wr : World) : Prop := ∃ j : Nat, j ≤ l.length ∧ i = .int .i64 j ∧ c = .int .i64 (belowN (l.take j) n) ∧ Grew w wr
theorem below_any (l : List Int) (hl : l.length ≤ 1000000) (A : Option Addr) (k : Nat) (n : Int) (w : World) (ra : Row w A (iV l)) : Gives Tryd.prog 92 #[.slice A l.length k, .int .i64 n] w (.int .i64 (belowN l n)) := by
  have RA := Lib.hid ra
  have HG0 : Hid (Grew w w) := Lib.hid (Grew.refl w)
  clear ra
  unfold Gives
  go_enter Tryd.func92, Tryd.ntmps92
  go_wp2
  go_loopw [5, 10] (fun c i wr => BelAt w l n c i wr) (fun _ i _ => l.length - (intOf i).toNat)
  case atStart => exact ⟨0, Nat.zero_le _, rfl, by simp [belowN], HG0.out⟩
  case round =>
    obtain ⟨j, hj, rfl, rfl, hg⟩ := hrel
    have HG := Lib.hid hg
    clear hg
    by_cases h : j < l.length
    · obtain ⟨b, o, rfl, hb, hc⟩ := rowI_at (RA.out.grew HG.out) h
      have HS := Lib.hid (belowN_succ h n)
      have hcl : belowN (l.take j) n ≤ 1000000 := by
        have h1 := belowN_le (l.take j) n
        rw [List.length_take] at h1
        omega
      by_cases hx : l[j] < n
      · have HK : Hid (BelAt w l n (.int .i64 ((belowN (l.take j) n : Int) + 1)) (.int .i64 ((j : Int) + 1)) wr) := Lib.hid ⟨j + 1, by omega, by go_num, by rw [HS.out, if_pos hx]; go_num, HG.out⟩
        clear HS
        generalize belowN (l.take j) n = c at *
        generalize l[j] = x at *
        go_wp2
        exact ⟨HK.out, by simp only [intOf]; omega⟩
      · have HK : Hid (BelAt w l n (.int .i64 (belowN (l.take j) n : Int)) (.int .i64 ((j : Int) + 1)) wr) := Lib.hid ⟨j + 1, by omega, by go_num, by rw [HS.out, if_neg hx]; rfl, HG.out⟩
        have hx' : n ≤ l[j] := by omega
        clear HS hx
        generalize belowN (l.take j) n = c at *
        generalize l[j] = x at *
        go_wp2
        exact ⟨HK.out, by simp only [intOf]; omega⟩
    · obtain rfl : j = l.length := by omega
      rw [List.take_length]
      go_wp2
      go_ret
      exact ⟨rfl, HG.out⟩
end Go.Proofs.YtbglmcebkpkccaaDoor

/- Layer 27: the document's sort. Condition: no more than a million numbers. -/
namespace Go.Proofs.YtbglmcebkpkccaaDoor
open Go.RowKit
attribute [local go_sem] more_cell more_frozen more_more more_setCell more_of_drew more_of_drewN lt_more le_more past_cell past_cell2 past_frozen past_frozen2 past_setCell past_setCell2 mid_cell mid_frozen mid_setCell
attribute [local go_sem ↓] Go.wp_at_zero Go.wp_at_succ

theorem row_takeI {w : World} {A : Option Addr} {l : List Int} (h : Row w A (iV l)) (q : Nat) : Row w A (iV (l.take q)) := by
  rcases h with h | ⟨b, o, hA, hb, hc⟩
  · have : l = [] := by simpa [iV] using h
    subst this
    exact Or.inl (by simp [iV])
  · refine Or.inr ⟨b, o, hA, hb, fun j u hu => hc j u ?_⟩
    simp only [iV, List.map_take] at hu ⊢
    rw [List.getElem?_take] at hu
    split at hu
    · exact hu
    · cases hu
theorem row_dropI {w : World} {A : Option Addr} {l : List Int} (h : Row w A (iV l)) (q : Nat) : Row w (A.map (fun a => a.add q)) (iV (l.drop q)) := by
  rcases h with h | ⟨b, o, hA, hb, hc⟩
  · have : l = [] := by simpa [iV] using h
    subst this
    exact Or.inl (by simp [iV])
  · subst hA
    refine Or.inr ⟨b, o + q, by simp [add_plain], hb, fun j u hu => ?_⟩
    simp only [iV, List.map_drop, List.getElem?_drop] at hu
    have := hc (q + j) u hu
    rw [Nat.add_assoc]
    exact this
theorem own_cap {w : World} {base n c : Nat} {e : TypeId} {A : Option Addr} {xs : List Value} (h : w.ownsRow base e 1 (.slice A n c) n xs) : n ≤ c := by
  rcases h.2 with ⟨h, h0⟩ | ⟨g, cap, cur, hv, _, _, h1, _⟩
  · omega
  · cases hv; exact h1
def SrtAt (w : World) (l : List Int) (v i : Value) (wr : World) : Prop := ∃ (j : Nat) (A : Option Addr) (c : Nat), j ≤ l.length ∧ i = .int .i64 j ∧ v = .slice A j c ∧ j ≤ c ∧ Grew w wr ∧ Row wr A (iV (sortI (l.take j)))
def ScanAt (w : World) (s : List Int) (x : Int) (k : Value) (wr : World) : Prop := ∃ j : Nat, j ≤ s.length ∧ k = .int .i64 j ∧ Grew w wr ∧ ∀ y ∈ s.drop j, x ≤ y
end Go.Proofs.YtbglmcebkpkccaaDoor

/- Layer 27: the document's sort, in memory of its own. Condition: no more than a million numbers. -/
namespace Go.Proofs.YtbglmcebkpkccaaDoor
open Go.RowKit
attribute [local go_sem] more_cell more_frozen more_more more_setCell more_of_drew more_of_drewN lt_more le_more past_cell past_cell2 past_frozen past_frozen2 past_setCell past_setCell2 mid_cell mid_frozen mid_setCell
attribute [local go_sem ↓] Go.wp_at_zero Go.wp_at_succ

/-- Numbers that come back in a row of one's own. -/
def IntsT (w : World) (l : List Int) (e : Ending) (w' : World) : Prop := ∃ A k, e = .returned (.slice A l.length k) ∧ l.length ≤ k ∧ Grew w w' ∧ TRow w.heap.size w' 3 A (iV l)
def SrtTAt (w : World) (l : List Int) (v i : Value) (wr : World) : Prop := ∃ (j : Nat) (A : Option Addr) (c : Nat), j ≤ l.length ∧ i = .int .i64 j ∧ v = .slice A j c ∧ j ≤ c ∧ Grew w wr ∧ TRow w.heap.size wr 3 A (iV (sortI (l.take j)))
def ScanTAt (w : World) (s : List Int) (x : Int) (k : Value) (wr : World) : Prop := ∃ j : Nat, j ≤ s.length ∧ k = .int .i64 j ∧ Grew w wr ∧ ∀ y ∈ s.drop j, x ≤ y
end Go.Proofs.YtbglmcebkpkccaaDoor

namespace Go.Proofs.YtbglmcebkpkccaaDoor
open Go.RowKit
attribute [local go_sem] more_cell more_frozen more_more more_setCell more_of_drew more_of_drewN lt_more le_more past_cell past_cell2 past_frozen past_frozen2 past_setCell past_setCell2 mid_cell mid_frozen mid_setCell
attribute [local go_sem ↓] Go.wp_at_zero Go.wp_at_succ

def HasAt (w : World) (l : List Int) (v : Int) (i : Value) (wr : World) : Prop := ∃ j : Nat, j ≤ l.length ∧ i = .int .i64 j ∧ Grew w wr ∧ v ∉ l.take j
theorem not_take {l : List Int} {v : Int} {j : Nat} (h : j < l.length) (hn : v ∉ l.take j) (hx : l[j] ≠ v) : v ∉ l.take (j + 1) := by
  rw [List.take_succ_eq_append_getElem h, List.mem_append]
  rintro (h1 | h1)
  · exact hn h1
  · exact hx (List.mem_singleton.1 h1).symm
theorem rhas21_any (l : List Int) (v : Int) (A : Option Addr) (k : Nat) (hl : l.length ≤ 1000000) (w : World) (ra : Row w A (iV l)) :
    Gives Tryd.prog 20 #[.slice A l.length k, .int .i64 v] w (.bool (decide (v ∈ l))) := by
  have RA := Lib.hid ra
  obtain ⟨t, ht⟩ : ∃ t, decide (v ∈ l) = t := ⟨_, rfl⟩
  rw [ht]
  have HT := Lib.hid ht
  clear ra ht
  unfold Gives
  go_enter Tryd.func20, Tryd.ntmps20
  go_wp2
  go_loopw [5] (fun i wr => HasAt w l v i wr) (fun i _ => l.length - (intOf i).toNat)
  case atStart => exact ⟨0, Nat.zero_le _, rfl, Grew.refl w, by simp⟩
  case round =>
    obtain ⟨j, hj, rfl, hg, hn⟩ := hrel
    have HG := Lib.hid hg
    have HN := Lib.hid hn
    clear hg hn
    by_cases h : j < l.length
    · obtain ⟨b, o, rfl, hb, hc⟩ := rowI_at (RA.out.grew HG.out) h
      have HNx := Lib.hid (not_take h HN.out)
      have HY : Hid (l[j] = v → t = true) := Lib.hid fun e => by rw [← HT.out, ← e]; exact decide_eq_true (List.getElem_mem h)
      clear HN
      generalize l[j] = x at *
      by_cases e : x = v
      · obtain rfl := HY.out e
        have e1 : (x == v) = true := by simpa using e
        clear HNx HY e
        go_wp2
        go_ret
        exact ⟨rfl, HG.out⟩
      · have HN2 := Lib.hid (HNx.out e)
        have e1 : (x == v) = false := by simpa using e
        clear HNx HY e
        go_wp2
        exact ⟨⟨j + 1, by omega, by go_num, HG.out, HN2.out⟩, by simp only [intOf]; omega⟩
    · obtain rfl : j = l.length := by omega
      rw [List.take_length] at HN
      obtain rfl : t = false := by rw [← HT.out]; exact decide_eq_false HN.out
      clear HN HT
      go_wp2
      go_ret
      exact ⟨rfl, HG.out⟩
end Go.Proofs.YtbglmcebkpkccaaDoor
