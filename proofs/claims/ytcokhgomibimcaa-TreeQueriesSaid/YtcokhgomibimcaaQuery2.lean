/- Layer 8: sources that are the same. Condition: expressions that lie in memory that is there. -/
import Derived.Test.YtcokhgomibimcaaQuery
import Derived.Test.YtcokhgomibimcaaTree12
namespace Go.Proofs.Ytcokhgomibimcaa
open Go.RowKit
attribute [local go_sem] more_cell more_frozen more_more more_setCell more_of_drew more_of_drewN lt_more le_more past_cell past_cell2 past_frozen past_frozen2 past_setCell past_setCell2 mid_cell mid_frozen mid_setCell
attribute [local go_sem ↓] Go.wp_at_zero Go.wp_at_succ

def frV (x : Fr) (A : Option Addr) (k : Nat) : Value := .agg #[.int .i64 x.join, .string x.table, .string x.short, .int .i64 x.on.op, .string x.on.tab, .string x.on.name, .int .i64 x.on.t, .int .i64 x.on.c, .int .i64 x.on.vk, .int .i64 x.on.vi, .string x.on.vs, .slice A x.on.l.length k]
theorem fr_same (x y : Fr) : x = y ↔ x.join = y.join ∧ x.table = y.table ∧ x.short = y.short ∧ x.on = y.on := by
  constructor
  · intro h; subst h; exact ⟨rfl, rfl, rfl, rfl⟩
  · intro ⟨h0, h1, h2, h3⟩
    cases x; cases y
    simp only at h0 h1 h2 h3
    subst h0 h1 h2 h3
    rfl
theorem bytes_beq (a b : ByteArray) (h : a = b) : (a.toList == b.toList) = true := by subst h; exact beq_self_eq_true _
theorem bytes_bne (a b : ByteArray) (h : ¬ a = b) : (a.toList == b.toList) = false := by rw [beq_eq_false_iff_ne]; exact fun e => h (bytes_ext e)
set_option maxHeartbeats 1000000 in
theorem samefrom_any (x y : Fr) (A B : Option Addr) (k j : Nat) (hx : x.on.nodes ≤ 1000000) (t : Bool) (ht : t = true ↔ x = y) (w : World) (ra : ExsR (PRow w) A x.on.l) (rb : ExsR (PRow w) B y.on.l) :
    Gives Try.prog 118 #[frV x A k, frV y B j] w (.bool t) := by
  obtain ⟨t2, ht2⟩ := some_bool (x.on = y.on)
  have HC : Hid (∀ W, Grew w W → Gives Try.prog 45 #[exV x.on A k, exV y.on B j] W (.bool t2)) := Lib.hid fun W hW => same_ex 1000000 (by omega) _ _ hx A B k j t2 ht2 W (ra.grew hW) (rb.grew hW)
  rw [fr_same] at ht
  clear ra rb hx
  unfold exV at HC
  unfold frV Gives
  obtain ⟨j1, t1, s1, o1⟩ := x
  obtain ⟨j2, tt2, s2, o2⟩ := y
  simp only at ht ht2 HC ⊢
  by_cases h0 : j1 = j2
  · by_cases h1 : t1 = tt2
    · by_cases h2 : s1 = s2
      · have h3 : t = t2 := by
          cases t <;> cases t2 <;> simp_all
        subst h3
        have e0 : (j1 == j2) = true := by rw [h0]; exact beq_self_eq_true _
        have e1 := bytes_beq _ _ h1
        have e2 := bytes_beq _ _ h2
        clear ht ht2 h0 h1 h2
        go_enter Try.func118, Try.ntmps118
        go_wp2_with (first | (go_at_call 45; (with_reducible refine (HC.out _ ((((Grew.refl w).alloc _).alloc _))).grows.mono ?_); rintro e w6 ⟨rfl, hg6⟩; have G6 := Lib.hid hg6; clear hg6))
        go_ret
        exact ⟨rfl, (((Grew.refl w).alloc _).alloc _).trans G6.out⟩
      · have hf : t = false := not_true ht (fun e => h2 e.2.2.1)
        subst hf
        have e0 : (j1 == j2) = true := by rw [h0]; exact beq_self_eq_true _
        have e1 := bytes_beq _ _ h1
        have e2 := bytes_bne _ _ h2
        clear ht ht2 HC h0 h1 h2
        go_enter Try.func118, Try.ntmps118
        go_wp2
        go_ret
        exact ⟨rfl, by (show Grew _ _; repeat (first | exact Grew.refl _ | refine Grew.alloc ?_ _ | refine Grew.drew ?_ | refine Grew.more ?_ _))⟩
    · have hf : t = false := not_true ht (fun e => h1 e.2.1)
      subst hf
      have e0 : (j1 == j2) = true := by rw [h0]; exact beq_self_eq_true _
      have e1 := bytes_bne _ _ h1
      clear ht ht2 HC h0 h1
      go_enter Try.func118, Try.ntmps118
      go_wp2
      go_ret
      exact ⟨rfl, by (show Grew _ _; repeat (first | exact Grew.refl _ | refine Grew.alloc ?_ _ | refine Grew.drew ?_ | refine Grew.more ?_ _))⟩
  · have hf : t = false := not_true ht (fun e => h0 e.1)
    subst hf
    have e0 : (j1 == j2) = false := by rw [beq_eq_false_iff_ne]; exact h0
    clear ht ht2 HC h0
    go_enter Try.func118, Try.ntmps118
    go_wp2
    go_ret
    exact ⟨rfl, by (show Grew _ _; repeat (first | exact Grew.refl _ | refine Grew.alloc ?_ _ | refine Grew.drew ?_ | refine Grew.more ?_ _))⟩
end Go.Proofs.Ytcokhgomibimcaa
