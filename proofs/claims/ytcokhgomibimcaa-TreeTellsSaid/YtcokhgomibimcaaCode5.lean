/- Layer 39: what reads numbers: it lies in memory. -/
import Derived.Test.YtcokhgomibimcaaCode4
import Derived.Test.YtcokhgomibimcaaCodeMath4
import Derived.Test.YtcokhgomibimcaaHeap
namespace Go.Proofs.Ytcokhgomibimcaa
open Go.RowKit
attribute [local go_sem] more_cell more_frozen more_more more_setCell more_of_drew more_of_drewN lt_more le_more past_cell past_cell2 past_frozen past_frozen2 past_setCell past_setCell2 mid_cell mid_frozen mid_setCell
attribute [local go_sem ↓] Go.wp_at_zero Go.wp_at_succ

/-- What is left to be read, and whether reading has failed. -/
def LeftIs (u w : World) (g : Nat) (l : List Nat) (f : Bool) : Prop :=
  ∃ A m, m = l.length ∧ Blok w g 127 #[.slice A m m, .bool f] ∧ Row u A (bV l) ∧ u.heap.size ≤ g ∧ Grew u w
theorem row_apart {u : World} {A : Option Addr} {l : List Nat} {g : Nat} (h : Row u A (bV l)) (hg : u.heap.size ≤ g) : l ≠ [] → ∀ a, A = some a → a.block ≠ g := by
  intro hl a ha
  rcases h with h | ⟨b, o, hA, hb, _⟩
  · exact absurd (List.map_eq_nil_iff.mp h) hl
  · rw [hA] at ha
    injection ha with ha
    subst ha
    show b ≠ g
    omega
theorem row_drop {w : World} {b o n : Nat} {xs : List Value} (h : Row w (some ⟨b, o, none⟩) xs) : Row w (some ⟨b, o + n, none⟩) (xs.drop n) := by
  rcases h with h | ⟨b', o', h1, h2, h3⟩
  · subst h
    exact Or.inl (by simp)
  · injection h1 with h1
    injection h1 with e1 e2 _
    subst e1 e2
    refine Or.inr ⟨b, o + n, rfl, h2, fun j u hu => ?_⟩
    rw [List.getElem?_drop] at hu
    rw [Nat.add_assoc]
    exact h3 _ _ hu
theorem bV_drop (l : List Nat) (n : Nat) : bV (l.drop n) = (bV l).drop n := by unfold bV; rw [List.map_drop]
set_option maxRecDepth 100000 in
theorem fail_any (g : Nat) (v u : Value) (w : World) (hb : Blok w g 127 #[v, u]) :
    Calls Try.prog 103 #[.pointer (some ⟨g, 0, none⟩)] w fun e w' => e = .returned (.tuple #[]) ∧ Blok w' g 127 #[.slice none 0 0, .bool true] ∧ Turns w w' g := by
  have c0 := hb.cell 0
  have c1 := hb.cell 1
  have z0 := hb.thaw 0
  have z1 := hb.thaw 1
  have hlt := hb.lt
  have HB := Lib.hid hb
  clear hb
  simp at c0 c1
  go_enter Try.func103, Try.ntmps103
  go_wp2
  first | go_ret | go_ret2 | go_end0
  refine ⟨rfl, ?_, ?_⟩
  · exact (HB.out.set 0 _).set 1 _
  · exact ((Turns.refl _ _).set 0 _).set 1 _
theorem add_some (b o n : Nat) : (Option.map (fun x : Addr => x.add n) (some ⟨b, o, none⟩)) = some ⟨b, o + n, none⟩ := by
  show some (Addr.add ⟨b, o, none⟩ n) = _
  unfold Addr.add
  split
  · rename_i h; subst h; rfl
  · rfl
def FromF (u : World) (l : List Nat) (n : Int) (e : Ending) (w' : World) : Prop := ∃ g, e = .returned (.pointer (some ⟨g, 0, none⟩)) ∧ LeftIs u w' g (leftS l n).1 (leftS l n).2
set_option maxRecDepth 100000 in
theorem from_any (l : List Nat) (A : Option Addr) (c : Nat) (n : Int) (hc : l.length ≤ c) (hl : l.length ≤ 1000000) (w : World) (hr : Row w A (bV l)) :
    Calls Try.prog 98 #[.slice A l.length c, .int .i64 n] w (FromF w l n) := by
  have HR := Lib.hid hr
  clear hr
  by_cases hbad : n < 0 ∨ l.length < n
  · have HS : Hid (leftS l n = ([], true)) := Lib.hid (by unfold leftS; rw [if_pos hbad])
    have HF : Hid (∀ W g, Blok W g 127 #[.slice none 0 0, .bool true] → w.heap.size ≤ g → Grew w W → FromF w l n (.returned (.pointer (some ⟨g, 0, none⟩))) W) := Lib.hid fun W g h1 h2 h3 => by
      refine ⟨g, rfl, ?_⟩
      rw [HS.out]
      exact ⟨none, 0, rfl, h1, Or.inl rfl, h2, h3⟩
    rcases hbad with h | h
    · go_enter Try.func98, Try.ntmps98
      go_wp2
      go_ret
      exact HF.out _ _ (Blok.new w _ _ _ rfl) (Nat.le_refl _) (by (show Grew _ _; repeat (first | exact Grew.refl _ | refine Grew.alloc ?_ _ | refine Grew.drew ?_ | refine Grew.more ?_ _)))
    · have h0 : ¬ n < 0 := by omega
      go_enter Try.func98, Try.ntmps98
      go_wp2
      go_ret
      exact HF.out _ _ (Blok.new w _ _ _ rfl) (Nat.le_refl _) (by (show Grew _ _; repeat (first | exact Grew.refl _ | refine Grew.alloc ?_ _ | refine Grew.drew ?_ | refine Grew.more ?_ _)))
  · obtain ⟨k, rfl⟩ : ∃ k : Nat, n = k := ⟨n.toNat, by omega⟩
    have hk : k ≤ l.length := by omega
    have HS : Hid (leftS l k = (l.drop k, false)) := Lib.hid (by unfold leftS; rw [if_neg hbad, Int.toNat_natCast])
    have HF : Hid (∀ W g A m, m = l.length - k → Blok W g 127 #[.slice A m m, .bool false] → Row w A (bV (l.drop k)) → w.heap.size ≤ g → Grew w W → FromF w l k (.returned (.pointer (some ⟨g, 0, none⟩))) W) := Lib.hid fun W g A m hm h1 h2 h3 h4 => by
      refine ⟨g, rfl, ?_⟩
      rw [HS.out]
      exact ⟨A, m, by rw [List.length_drop]; exact hm, h1, h2, h3, h4⟩
    have h0 : decide ((k : Int) < 0) = false := by simp
    clear hbad HS
    go_enter Try.func98, Try.ntmps98
    go_wp2
    · go_ret
      exact HF.out _ _ _ 0 (by omega) (Blok.new w _ _ _ rfl) (Or.inl (by unfold bV; rw [List.map_drop, List.drop_of_length_le (by rw [List.length_map]; omega)])) (Nat.le_refl _) (by (show Grew _ _; repeat (first | exact Grew.refl _ | refine Grew.alloc ?_ _ | refine Grew.drew ?_ | refine Grew.more ?_ _)))
    · go_ret
      rename_i h
      have h2 : k < l.length := by omega
      have hx : bV l ≠ [] := fun h3 => by unfold bV at h3; rw [List.map_eq_nil_iff] at h3; subst h3; simp at h2
      rcases HR.out with h3 | ⟨b, o, rfl, hb, _⟩
      · exact absurd h3 hx
      · rw [add_some]
        exact HF.out _ _ _ _ rfl (Blok.new w _ _ _ rfl) (by rw [bV_drop]; exact row_drop HR.out) (Nat.le_refl _) (by (show Grew _ _; repeat (first | exact Grew.refl _ | refine Grew.alloc ?_ _ | refine Grew.drew ?_ | refine Grew.more ?_ _)))
end Go.Proofs.Ytcokhgomibimcaa
