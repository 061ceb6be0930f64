/- Layer 8: how many parts expressions have, counted no further than a bound. Condition: expressions that lie in memory that is there. -/
import Derived.Test.YtoaciliojdaoaaaTree
namespace Go.Proofs.Ytoaciliojdaoaaa
open Go.RowKit
attribute [local go_sem] more_cell more_frozen more_more more_setCell more_of_drew more_of_drewN lt_more le_more past_cell past_cell2 past_frozen past_frozen2 past_setCell past_setCell2 mid_cell mid_frozen mid_setCell
attribute [local go_sem ↓] Go.wp_at_zero Go.wp_at_succ

theorem nodesL_append (l m : List Ex) : nodesL (l ++ m) = nodesL l + nodesL m := by
  induction l with
  | nil => simp [nodesL]
  | cons x l ih => simp only [List.cons_append, nodesL, ih]; omega
theorem nodesL_take {l : List Ex} {i : Nat} (h : i < l.length) : nodesL (l.take (i + 1)) = nodesL (l.take i) + l[i].nodes := by
  rw [List.take_succ_eq_append_getElem h, nodesL_append]
  simp [nodesL]
def CountR (w : World) (x : Ex) (b : Nat) (e : Ending) (w' : World) : Prop := ∃ m : Nat, e = .returned (.int .i64 m) ∧ Grew w w' ∧ 1 ≤ m ∧ m ≤ b ∧ (m < b → x.nodes = m)
def CountAt (w : World) (cs : Array Value) (l : List Ex) (b : Nat) (v i : Value) (wr : World) : Prop :=
  ∃ j m : Nat, j ≤ l.length ∧ i = .int .i64 j ∧ v = .int .i64 m ∧ j + 1 ≤ m ∧ m ≤ b ∧ Grew w wr ∧ Blok wr w.heap.size 27 cs ∧ (m < b → 1 + nodesL (l.take j) = m)
set_option maxHeartbeats 2000000 in
theorem count_any (n : Nat) : ∀ (x : Ex), SizeOf.sizeOf x < n → ∀ (A : Option Addr) (k b : Nat), 1 ≤ b → b ≤ 400 → ∀ w, ExsR (PRow w) A x.l → Calls Try.prog 49 #[exV x A k, .int .i64 b] w (CountR w x b) := by
  induction n with
  | zero => intro x hn; omega
  | succ n ih =>
    intro x hn A k b hb1 hb4 w ra
    have hpart : ∀ y ∈ x.l, SizeOf.sizeOf y < n := fun y hy => by have := x.part_lt hy; omega
    have hx : x.nodes = 1 + nodesL x.l := nodes_eq x
    obtain ⟨op, tab, name, tt, c, vk, vi, vs, l⟩ := x
    simp only [Ex.l] at ra hpart hx
    have RA := Lib.hid ra
    have HI := Lib.hid (fun (y : Ex) (hy : y ∈ l) => ih y (hpart y hy))
    have HX := Lib.hid hx
    clear ra hpart ih hn hx
    generalize hxx : Ex.mk op tab name tt c vk vi vs l = xx at HX ⊢
    have hxv : exV xx A k = .agg #[.int .i64 op, .string tab, .string name, .int .i64 tt, .int .i64 c, .int .i64 vk, .int .i64 vi, .string vs, .slice A l.length k] := by subst hxx; rfl
    rw [hxv]
    clear hxv hxx
    go_enter Try.func49, Try.ntmps49
    go_upto_region 4 with fail
    · go_ret
      exact ⟨b, rfl, by (show Grew _ _; repeat (first | exact Grew.refl _ | refine Grew.alloc ?_ _ | refine Grew.drew ?_ | refine Grew.more ?_ _)), hb1, Nat.le_refl _, fun h => absurd h (Nat.lt_irrefl _)⟩
    · go_wp2
      go_loopw [5, 6] (fun v i wr => CountAt w #[.int .i64 op, .string tab, .string name, .int .i64 tt, .int .i64 c, .int .i64 vk, .int .i64 vi, .string vs, .slice A l.length k] l b v i wr) (fun _ i _ => l.length - (intOf i).toNat)
      case atStart => exact ⟨0, 1, Nat.zero_le _, rfl, rfl, Nat.le_refl _, hb1, by (show Grew _ _; repeat (first | exact Grew.refl _ | refine Grew.alloc ?_ _ | refine Grew.drew ?_ | refine Grew.more ?_ _)), Blok.new _ _ _ _ rfl, fun _ => by simp [nodesL]⟩
      case round =>
        obtain ⟨j, m, hj, rfl, rfl, h1, h2, hg, hb, hk⟩ := hrel
        have HG := Lib.hid hg
        have HB := Lib.hid hb
        have HK := Lib.hid hk
        have c8 := hb.cell 8
        have hlt0 := hb.lt
        simp at c8
        clear hg hb hk
        by_cases h : j < l.length
        · by_cases hmb : m < b
          · obtain ⟨ba, oa, PA, ka, rfl, hpa, h9⟩ := exsR_nine RA.out h
            obtain ⟨d, hd⟩ : ∃ d : Nat, d = b - m := ⟨_, rfl⟩
            have hd1 : 1 ≤ d := by omega
            have hdb : m + d = b := by omega
            have ed : (b : Int) - (m : Int) = (d : Int) := by omega
            have HC : Hid (∀ W, Grew w W → Calls Try.prog 49 #[exV l[j] PA ka, .int .i64 ((b : Int) - (m : Int))] W (CountR W l[j] d)) := Lib.hid fun W hW => by
              rw [ed]
              exact HI.out _ (List.getElem_mem h) _ _ d hd1 (by omega) W (hpa.grew hW)
            have HN := Lib.hid (nodesL_take h)
            obtain ⟨p0, a0, a1, a2, a3, a4, a5, a6, a7, a8⟩ := h9.grew HG.out
            clear h9 hpa HI ed hd
            generalize l[j] = y at *
            unfold exV at HC
            go_wp2_with (first | (go_at_call 49; (with_reducible refine (HC.out _ HG.out).mono ?_); rintro e w2 ⟨m2, rfl, hg2, q1, q2, q3⟩; have HG2 := Lib.hid hg2; clear hg2))
            exact ⟨⟨j + 1, m + m2, by omega, by go_num, by go_num, by omega, by omega, HG.out.trans HG2.out, HB.out.grew HG2.out, fun q => by rw [HN.out, q3 (by omega)]; have := HK.out hmb; omega⟩, by simp only [intOf]; omega⟩
          · have hmb' : (b : Int) ≤ m := by omega
            go_wp2
            go_ret
            exact ⟨m, rfl, HG.out, by omega, h2, fun q => absurd q hmb⟩
        · obtain rfl : j = l.length := by omega
          go_wp2
          go_ret
          refine ⟨m, rfl, HG.out, by omega, h2, fun q => ?_⟩
          have := HK.out q
          rw [List.take_length] at this
          rw [HX.out, this]
end Go.Proofs.Ytoaciliojdaoaaa
