/- Layer 8: expressions that are the same, by the program. Condition: expressions that lie in memory that is there. -/
import Derived.Test.YtcokhgomibimcaaTree3
namespace Go.Proofs.Ytcokhgomibimcaa
open Go.RowKit
attribute [local go_sem] more_cell more_frozen more_more more_setCell more_of_drew more_of_drewN lt_more le_more past_cell past_cell2 past_frozen past_frozen2 past_setCell past_setCell2 mid_cell mid_frozen mid_setCell
attribute [local go_sem ↓] Go.wp_at_zero Go.wp_at_succ

/-- The variable that holds the function that asks itself. -/
def SelfAt (w : World) (g : Nat) : Prop := Blok w g 63 #[.func (.func 114) #[] #[.pointer (some ⟨g, 0, none⟩)]]
set_option maxHeartbeats 1000000 in
theorem samec_head (a b : Ex) (A B : Option Addr) (k j g : Nat) (h : ¬ headE a b) (w : World) : Gives Try.prog 114 #[exV a A k, exV b B j, .pointer (some ⟨g, 0, none⟩)] w (.bool false) := by
  obtain ⟨op, tab, name, tt, c, vk, vi, vs, l⟩ := a
  obtain ⟨op', tab', name', tt', c', vk', vi', vs', l'⟩ := b
  have HH : Hid (op = op' → tab.toList = tab'.toList → name.toList = name'.toList → tt = tt' → c = c' → vk = vk' → vi = vi' → vs.toList = vs'.toList → False) := Lib.hid fun h0 h1 h2 h3 h4 h5 h6 h7 => h ⟨h0, bytes_ext h1, bytes_ext h2, h3, h4, h5, h6, bytes_ext h7⟩
  clear h
  unfold Gives exV
  simp only [Ex.op, Ex.tab, Ex.name, Ex.t, Ex.c, Ex.vk, Ex.vi, Ex.vs, Ex.l]
  go_enter Try.func114, Try.ntmps114
  go_wp2_with fail
  all_goals first
    | (go_ret; exact ⟨rfl, by (show Grew _ _; repeat (first | exact Grew.refl _ | refine Grew.alloc ?_ _ | refine Grew.drew ?_ | refine Grew.more ?_ _))⟩)
    | (exfalso; refine HH.out ?_ ?_ ?_ ?_ ?_ ?_ ?_ ?_ <;> assumption)
set_option maxHeartbeats 1000000 in
theorem samec_list (op tt c vk vi : Int) (tab name vs : ByteArray) (A B : Option Addr) (k j m m' g : Nat) (t : Bool) (w : World) (hs : SelfAt w g)
    (hc : ∀ W, Grew w W → Gives Try.prog 115 #[.slice A m k, .slice B m' j, .func (.func 114) #[] #[.pointer (some ⟨g, 0, none⟩)]] W (.bool t)) :
    Gives Try.prog 114 #[.agg #[.int .i64 op, .string tab, .string name, .int .i64 tt, .int .i64 c, .int .i64 vk, .int .i64 vi, .string vs, .slice A m k], .agg #[.int .i64 op, .string tab, .string name, .int .i64 tt, .int .i64 c, .int .i64 vk, .int .i64 vi, .string vs, .slice B m' j], .pointer (some ⟨g, 0, none⟩)] w (.bool t) := by
  have HC := Lib.hid hc
  have c0 : w.cell? ⟨g, 0, none⟩ = some (.func (.func 114) #[] #[.pointer (some ⟨g, 0, none⟩)]) := hs.cell 0
  have hg : g < w.heap.size := hs.lt
  clear hc hs
  unfold Gives
  go_enter Try.func114, Try.ntmps114
  go_wp2_with (first | (go_at_call 115; (with_reducible refine (HC.out _ (((Grew.refl w).alloc _).alloc _)).grows.mono ?_); rintro e w2 ⟨rfl, hg2⟩; have HG2 := Lib.hid ((((Grew.refl w).alloc _).alloc _).trans hg2); clear hg2))
  go_ret
  exact ⟨rfl, HG2.out⟩
theorem samec_ex (n : Nat) (hn : n ≤ 1000000) : ∀ (a b : Ex), a.nodes ≤ n → ∀ (A B : Option Addr) (k j : Nat) (t : Bool), (t = true ↔ a = b) → ∀ w g, SelfAt w g → ExsR (PRow w) A a.l → ExsR (PRow w) B b.l →
    Gives Try.prog 114 #[exV a A k, exV b B j, .pointer (some ⟨g, 0, none⟩)] w (.bool t) := by
  induction n with
  | zero => intro a b h; have := nodes_pos a; omega
  | succ n ih =>
    intro a b ha A B k j t ht w g hs ra rb
    by_cases hh : headE a b
    · rw [same_head hh] at ht
      obtain ⟨op, tab, name, tt, c, vk, vi, vs, l⟩ := a
      obtain ⟨op', tab', name', tt', c', vk', vi', vs', l'⟩ := b
      obtain ⟨h0, h1, h2, h3, h4, h5, h6, h7⟩ := hh
      simp only [Ex.op, Ex.tab, Ex.name, Ex.t, Ex.c, Ex.vk, Ex.vi, Ex.vs] at h0 h1 h2 h3 h4 h5 h6 h7
      subst h0 h1 h2 h3 h4 h5 h6 h7
      simp only [Ex.l] at ht ra rb
      have h := nodes_len (.mk op tab name tt c vk vi vs l)
      simp only [Ex.l] at h
      unfold exV
      simp only [Ex.op, Ex.tab, Ex.name, Ex.t, Ex.c, Ex.vk, Ex.vi, Ex.vs, Ex.l]
      refine samec_list op tt c vk vi tab name vs A B k j l.length l'.length g t w hs fun W hW => ?_
      exact eqf_rec g l l' A B k j _ _ rfl rfl (by omega) t ht W (fun a b ha' A B k j t ht W' hW' ra rb => ih (by omega) a b (by have := nodes_part (x := .mk op tab name tt c vk vi vs l) ha'; omega) A B k j t ht W' g (Blok.grew hs (hW.trans hW')) ra rb) (ra.grew hW) (rb.grew hW)
    · have hf : t = false := not_true ht (fun e => hh (head_same e))
      subst hf
      exact samec_head a b A B k j g hh w
set_option maxHeartbeats 1000000 in
theorem same_ex (n : Nat) (hn : n ≤ 1000000) (a b : Ex) (ha : a.nodes ≤ n) (A B : Option Addr) (k j : Nat) (t : Bool) (ht : t = true ↔ a = b) (w : World) (ra : ExsR (PRow w) A a.l) (rb : ExsR (PRow w) B b.l) :
    Gives Try.prog 45 #[exV a A k, exV b B j] w (.bool t) := by
  have HC : Hid (∀ W g, Grew w W → SelfAt W g → Gives Try.prog 114 #[exV a A k, exV b B j, .pointer (some ⟨g, 0, none⟩)] W (.bool t)) := Lib.hid fun W g hW hs => samec_ex n hn a b ha A B k j t ht W g hs (ra.grew hW) (rb.grew hW)
  clear ra rb ht ha
  unfold exV at *
  unfold Gives
  go_enter Try.func45, Try.ntmps45
  go_wp2_with fail
  refine (HC.out _ _ (((Grew.refl w).alloc _).alloc _ |>.alloc _) (Blok.new _ _ _ _ (by simp))).grows.mono ?_
  rintro e w2 ⟨rfl, hg2⟩
  have HG2 := Lib.hid ((((Grew.refl w).alloc _).alloc _ |>.alloc _).trans hg2)
  clear hg2
  go_wp2
  go_ret
  exact ⟨rfl, HG2.out⟩
end Go.Proofs.Ytcokhgomibimcaa
