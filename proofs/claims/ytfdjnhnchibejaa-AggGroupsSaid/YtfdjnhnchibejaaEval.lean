/- Layer 13: At, by the program and by the document; two sides. Condition: rows and expressions that lie in memory that is there. -/
import Derived.Test.YtfdjnhnchibejaaEvalMath
import Derived.Test.YtfdjnhnchibejaaRowEq
import Derived.Test.YtfdjnhnchibejaaArith4
import Derived.Test.YtfdjnhnchibejaaLogic4
import Derived.Test.YtfdjnhnchibejaaTree
namespace Go.Proofs.Ytfdjnhnchibejaa
open Go.RowKit
attribute [local go_sem] more_cell more_frozen more_more more_setCell more_of_drew more_of_drewN lt_more le_more past_cell past_cell2 past_frozen past_frozen2 past_setCell past_setCell2 mid_cell mid_frozen mid_setCell
attribute [local go_sem ↓] Go.wp_at_zero Go.wp_at_succ

/-- A value's block: its three cells. -/
theorem val_in {w : World} {g : Nat} {a b c : Value} (h : Blok w g 27 #[a, b, c]) : g < w.heap.size ∧ w.cell? ⟨g, 0, none⟩ = some a ∧ w.cell? ⟨g, 1, none⟩ = some b ∧ w.cell? ⟨g, 2, none⟩ = some c ∧ w.frozen? ⟨g, 0, none⟩ = false ∧ w.frozen? ⟨g, 1, none⟩ = false ∧ w.frozen? ⟨g, 2, none⟩ = false :=
  ⟨h.lt, h.cell 0, h.cell 1, h.cell 2, h.thaw 0, h.thaw 1, h.thaw 2⟩
theorem val_set {w : World} {g : Nat} {a b c : Value} (h : Blok w g 27 #[a, b, c]) (x y z : Value) : Blok (((w.setCell ⟨g, 0, none⟩ x).setCell ⟨g, 1, none⟩ y).setCell ⟨g, 2, none⟩ z) g 27 #[x, y, z] := ((h.set 0 x).set 1 y).set 2 z
theorem grew_set3 {u w : World} (h : Grew u w) {g : Nat} (hg : u.heap.size ≤ g) (x y z : Value) : Grew u (((w.setCell ⟨g, 0, none⟩ x).setCell ⟨g, 1, none⟩ y).setCell ⟨g, 2, none⟩ z) := Grew.setCell (Grew.setCell (Grew.setCell h hg _) hg _) hg _
set_option maxHeartbeats 1000000 in
theorem at_any (env : List (List Vl)) (he : RwsOk env) (A : Option Addr) (k : Nat) (t c : Int) (w : World) (ra : RwsR (PRow w) A env) :
    Gives Try.prog 178 #[.slice A env.length k, .int .i64 t, .int .i64 c] w (vlV (atE env t c)) := by
  have hlen := he.1
  unfold Gives
  by_cases h1 : 0 ≤ t ∧ t < env.length
  · obtain ⟨h1, h2⟩ := h1
    obtain ⟨t, rfl⟩ : ∃ n : Nat, t = n := ⟨t.toNat, by omega⟩
    have ht : t < env.length := by omega
    obtain ⟨b, o, B, kb, rfl, hb, hc, _, hv⟩ := rwsR_at ra ht
    have hl2 := (he.2 _ (List.getElem_mem ht)).1
    have e0 : env.getD (t : Int).toNat [] = env[t] := by simp [List.getD, ht]
    by_cases h3 : 0 ≤ c
    · by_cases h4 : c < (env[t].length : Int)
      · obtain ⟨c, rfl⟩ : ∃ n : Nat, c = n := ⟨c.toNat, by omega⟩
        have hcl : c < env[t].length := by omega
        obtain ⟨b', o', rfl, hb', c0, c1, c2⟩ := vlsR_at hv hcl
        rw [atE_in ht hcl]
        clear e0 hv ra
        generalize hr : env[t] = r at *
        clear hr
        obtain ⟨x, hx⟩ : ∃ x, r[c] = x := ⟨_, rfl⟩
        rw [hx] at c0 c1 c2 ⊢
        clear hx
        unfold vlV
        go_enter Try.func178, Try.ntmps178
        go_wp2
        exact bodyPost_ret (v := .agg #[.int .i64 x.k, .int .i64 x.i, .string x.s]) (by simp [results, Try.results178, go_sem]) rfl ⟨rfl, by (show Grew _ _; repeat (first | exact Grew.refl _ | refine Grew.alloc ?_ _ | refine Grew.drew ?_ | refine Grew.more ?_ _))⟩
      · have h4' : (env[t].length : Int) ≤ c := by omega
        rw [atE_out (by rw [e0]; omega)]
        clear e0 hv ra h4
        generalize env[t] = r at *
        unfold vlV zV
        go_enter Try.func178, Try.ntmps178
        go_wp2_with (first | (go_at_call 189; refine (null_any _).mono ?_; rintro e w' ⟨rfl, x, rfl⟩))
        first
          | exact bodyPost_ret (v := .agg #[.int .i64 0, .int .i64 0, .string ⟨#[]⟩]) (by simp [results, Try.results178, go_sem]) rfl ⟨rfl, by (show Grew _ _; repeat (first | exact Grew.refl _ | refine Grew.alloc ?_ _ | refine Grew.drew ?_ | refine Grew.more ?_ _))⟩
          | exact bodyPost_ret (v := .agg #[.int .i64 0, .int .i64 0, .string ⟨#[]⟩]) (by simp [results, Try.results178, go_sem]) rfl ⟨rfl, by show Grew w _; repeat (first | exact Grew.refl _ | refine Grew.setCell ?_ (by simp) _ | refine Grew.alloc ?_ _ | refine Grew.drew ?_ | refine Grew.more ?_ _)⟩
    · have h3' : c < 0 := by omega
      rw [atE_out (by omega)]
      clear e0 hv ra h3
      generalize env[t] = r at *
      unfold vlV zV
      go_enter Try.func178, Try.ntmps178
      go_wp2_with (first | (go_at_call 189; refine (null_any _).mono ?_; rintro e w' ⟨rfl, x, rfl⟩))
      exact bodyPost_ret (v := .agg #[.int .i64 0, .int .i64 0, .string ⟨#[]⟩]) (by simp [results, Try.results178, go_sem]) rfl ⟨rfl, by show Grew w _; repeat (first | exact Grew.refl _ | refine Grew.setCell ?_ (by simp) _ | refine Grew.alloc ?_ _ | refine Grew.drew ?_ | refine Grew.more ?_ _)⟩
  · rw [atE_out (by omega)]
    unfold vlV zV
    clear ra
    by_cases h0 : t < 0
    · go_enter Try.func178, Try.ntmps178
      go_wp2_with (first | (go_at_call 189; refine (null_any _).mono ?_; rintro e w' ⟨rfl, x, rfl⟩))
      exact bodyPost_ret (v := .agg #[.int .i64 0, .int .i64 0, .string ⟨#[]⟩]) (by simp [results, Try.results178, go_sem]) rfl ⟨rfl, by show Grew w _; repeat (first | exact Grew.refl _ | refine Grew.setCell ?_ (by simp) _ | refine Grew.alloc ?_ _ | refine Grew.drew ?_ | refine Grew.more ?_ _)⟩
    · have h0' : 0 ≤ t := by omega
      have h2 : (env.length : Int) ≤ t := by omega
      go_enter Try.func178, Try.ntmps178
      go_wp2_with (first | (go_at_call 189; refine (null_any _).mono ?_; rintro e w' ⟨rfl, x, rfl⟩))
      exact bodyPost_ret (v := .agg #[.int .i64 0, .int .i64 0, .string ⟨#[]⟩]) (by simp [results, Try.results178, go_sem]) rfl ⟨rfl, by show Grew w _; repeat (first | exact Grew.refl _ | refine Grew.setCell ?_ (by simp) _ | refine Grew.alloc ?_ _ | refine Grew.drew ?_ | refine Grew.more ?_ _)⟩
end Go.Proofs.Ytfdjnhnchibejaa
