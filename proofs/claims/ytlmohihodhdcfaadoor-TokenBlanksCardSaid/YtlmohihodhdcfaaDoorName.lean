/- Layer 5: which texts may be names, and which are words, by the program and by the document's own answer. No condition. -/
import Derived.Test.YtlmohihodhdcfaaDoorRows
import Derived.Test.YtlmohihodhdcfaaDoorKit3
import Derived.Lib.Hide
import Derived.Lib.Bytealg
import Derived.Deep.RegionHeld3
import Derived.Deep.DrawnRows
namespace Go.Proofs.YtlmohihodhdcfaaDoor
open Go.RowKit
attribute [local go_sem] more_cell more_frozen more_more more_setCell more_of_drew more_of_drewN lt_more le_more past_cell past_cell2 past_frozen past_frozen2 past_setCell past_setCell2 mid_cell mid_frozen mid_setCell
attribute [local go_sem ↓] Go.wp_at_zero Go.wp_at_succ

/-- The words of queries, in the document's order. -/
def wordsL : List (List UInt8) :=
  [[115, 101, 108, 101, 99, 116], [102, 114, 111, 109], [106, 111, 105, 110], [108, 101, 102, 116], [115, 101, 109, 105], [97, 110, 116, 105], [111, 110], [119, 104, 101, 114, 101], [103, 114, 111, 117, 112], [98, 121],
   [97, 115], [97, 110, 100], [111, 114], [110, 111, 116], [105, 115], [110, 117, 108, 108], [99, 111, 117, 110, 116], [115, 117, 109], [109, 105, 110], [109, 97, 120]]
def wordB (s : ByteArray) : Bool := wordsL.any fun x => s.toList == x
def letterB (b : UInt8) : Bool := (decide (97 ≤ b.toNat) && decide (b.toNat ≤ 122)) || decide (b.toNat = 95)
def digitB (b : UInt8) : Bool := decide (48 ≤ b.toNat) && decide (b.toNat ≤ 57)
def nameB (s : ByteArray) : Bool := decide (1 ≤ s.size) && (decide (s.size ≤ 32) && (!wordB s && (!digitB (s.data.toList.headD 0) && s.data.toList.all fun b => letterB b || digitB b)))
theorem nameB_iff (s : ByteArray) : nameB s = true ↔ 1 ≤ s.size ∧ s.size ≤ 32 ∧ wordB s = false ∧ ∀ j (h : j < s.size), (letterB s[j] || digitB s[j]) = true ∧ (j = 0 → digitB s[j] = false) := by
  obtain ⟨⟨l⟩⟩ := s
  show (decide (1 ≤ l.length) && (decide (l.length ≤ 32) && (!wordB ⟨⟨l⟩⟩ && (!digitB (l.headD 0) && l.all fun b => letterB b || digitB b)))) = true ↔
    1 ≤ l.length ∧ l.length ≤ 32 ∧ wordB ⟨⟨l⟩⟩ = false ∧ ∀ j (h : j < l.length), (letterB l[j] || digitB l[j]) = true ∧ (j = 0 → digitB l[j] = false)
  simp only [Bool.and_eq_true, decide_eq_true_eq, Bool.not_eq_true', List.all_eq_true]
  constructor
  · rintro ⟨h1, h2, h3, h4, h5⟩
    refine ⟨h1, h2, h3, fun j h => ⟨h5 _ (List.getElem_mem h), ?_⟩⟩
    rintro rfl
    cases l with
    | nil => simp at h
    | cons x l => exact h4
  · rintro ⟨h1, h2, h3, h4⟩
    refine ⟨h1, h2, h3, ?_, fun b hb => ?_⟩
    · cases l with
      | nil => simp at h1
      | cons x l => exact (h4 0 (by simp)).2 rfl
    · obtain ⟨j, h, rfl⟩ := List.getElem_of_mem hb
      exact (h4 j h).1

set_option maxHeartbeats 1000000 in
theorem word_any (s : ByteArray) (w : World) : Calls Tryd.prog 36 #[.string s] w fun e w' => e = .returned (.bool (wordB s)) ∧ w' = w := by
  go_enter Tryd.func36, Tryd.ntmps36
  go_wp2
  all_goals
    go_ret
    refine ⟨congrArg (fun b => Ending.returned (Value.bool b)) ?_, rfl⟩
    unfold wordB wordsL
    simp only [List.any_cons, *]
    first | rfl | simp_all
def wordsC : Array Value := (wordsL.map fun x => Value.string ⟨x.toArray⟩).toArray
theorem words_row (w : World) : Row (w.alloc (.cells wordsC 9)) (some ⟨w.heap.size, 0, none⟩) (wordsL.map fun x => Value.string ⟨x.toArray⟩) := by
  refine Or.inr ⟨_, 0, rfl, by rw [World.size_alloc]; omega, fun j u hu => ?_⟩
  rw [World.cell?_alloc_at _ _ _ _ rfl, Nat.zero_add, ← hu]
  unfold wordsC
  simp
theorem wp_world {P : Program} {c : Code} {a : Act} {w w' : World} {Q : Exit → Act → World → Prop} (h : Code.wp P c Q a w') (e : w = w') : Code.wp P c Q a w := by
  subst e
  exact h
theorem take_any (s : ByteArray) (k : Nat) (h : k < wordsL.length) : (wordsL.take (k + 1)).any (fun x => s.toList == x) = ((wordsL.take k).any (fun x => s.toList == x) || (s.toList == wordsL[k])) := by
  rw [List.take_succ_eq_append_getElem h, List.any_append, List.any_cons, List.any_nil, Bool.or_false]
theorem wordB_at (s : ByteArray) (k : Nat) (h : k < wordsL.length) (he : (s.toList == wordsL[k]) = true) : wordB s = true := List.any_eq_true.2 ⟨_, List.getElem_mem h, he⟩
def WordAt (s : ByteArray) (i : Value) : Prop := ∃ k : Nat, k ≤ 20 ∧ i = .int .i64 k ∧ (wordsL.take k).any (fun x => s.toList == x) = false
set_option maxHeartbeats 1000000 in
theorem rword_any (s : ByteArray) (w : World) : Gives Tryd.prog 25 #[.string s] w (.bool (wordB s)) := by
  unfold Gives
  go_enter Tryd.func25, Tryd.ntmps25
  go_wp2
  refine wp_world (w' := w.alloc (.cells wordsC 9)) ?_ rfl
  have HR := Lib.hid (words_row w)
  generalize hW : w.alloc (.cells wordsC 9) = V at HR
  go_loop [4] (fun i => WordAt s i) (fun i => 20 - (intOf i).toNat)
  case atStart => exact ⟨0, by omega, rfl, rfl⟩
  case round =>
    obtain ⟨k, hk, rfl, ha⟩ := hrel
    have HA := Lib.hid ha
    clear ha
    by_cases h : k < 20
    · have hl : k < wordsL.length := h
      obtain ⟨b, o, hA, hb, hc⟩ := HR.out.at_ (k := k) (by rw [List.length_map]; exact hl)
      injection hA with hA
      injection hA with e1 e2 _
      subst e1 e2
      rw [List.getElem_map, Nat.zero_add] at hc
      have HT := Lib.hid (take_any s k hl)
      have H2 := Lib.hid (wordB_at s k hl)
      generalize wordsL[k] = y at hc HT H2
      have hz : ((⟨y.toArray⟩ : ByteArray).toList == s.toList) = (s.toList == y) := by
        rw [ByteArray.toList_eq, Bool.eq_iff_iff, beq_iff_eq, beq_iff_eq]
        exact eq_comm
      clear hl
      generalize (⟨y.toArray⟩ : ByteArray) = t at hc hz
      cases hy : s.toList == y
      · rw [hy] at hz
        go_wp2
        case roundEnd => exact ⟨⟨k + 1, by omega, by simp, by rw [HT.out, HA.out, hy]; rfl⟩, by simp only [intOf]; omega⟩
      · rw [hy] at hz
        go_wp2
        go_ret
        exact ⟨ret_bool (H2.out hy).symm, by rw [← hW]; (show Grew _ _; repeat (first | exact Grew.refl _ | refine Grew.alloc ?_ _ | refine Grew.drew ?_ | refine Grew.more ?_ _))⟩
    · obtain rfl : k = 20 := by omega
      go_wp2
      go_ret
      exact ⟨ret_bool (by rw [← HA.out]; rfl), by rw [← hW]; (show Grew _ _; repeat (first | exact Grew.refl _ | refine Grew.alloc ?_ _ | refine Grew.drew ?_ | refine Grew.more ?_ _))⟩
def NameAt (s : ByteArray) (i : Value) : Prop := ∃ k : Nat, k ≤ s.size ∧ i = .int .i64 k ∧ ∀ j (_ : j < k) (h : j < s.size), (letterB s[j] || digitB s[j]) = true ∧ (j = 0 → digitB s[j] = false)
theorem name_step {s : ByteArray} {k : Nat} {hk : k < s.size} (ha : ∀ j (_ : j < k) (h : j < s.size), (letterB s[j] || digitB s[j]) = true ∧ (j = 0 → digitB s[j] = false)) (h0 : k = 0 → digitB s[k] = false) (h1 : (letterB s[k] || digitB s[k]) = true) :
    ∀ j (_ : j < k + 1) (h : j < s.size), (letterB s[j] || digitB s[j]) = true ∧ (j = 0 → digitB s[j] = false) := by
  intro j hj h
  rcases Nat.lt_or_ge j k with hl | hl
  · exact ha j hl h
  · obtain rfl : j = k := by omega
    exact ⟨h1, h0⟩
theorem nameB_no {s : ByteArray} (h : ¬ (1 ≤ s.size ∧ s.size ≤ 32 ∧ wordB s = false ∧ ∀ j (h : j < s.size), (letterB s[j] || digitB s[j]) = true ∧ (j = 0 → digitB s[j] = false))) : nameB s = false := by
  cases hn : nameB s
  · rfl
  · exact absurd ((nameB_iff s).1 hn) h
end Go.Proofs.YtlmohihodhdcfaaDoor
