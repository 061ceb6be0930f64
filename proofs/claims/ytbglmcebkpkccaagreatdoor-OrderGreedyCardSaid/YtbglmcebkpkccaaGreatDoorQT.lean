/- Layer 8: which sums, how it binds, how many parts a sign has. Condition: expressions that lie in memory that is there. -/
import Derived.Test.YtbglmcebkpkccaaGreatDoorEx
import Derived.Test.YtbglmcebkpkccaaGreatDoorHeld
import Derived.Test.YtbglmcebkpkccaaGreatDoorHead
import Derived.StillTailTactics
import Derived.Deep.DrawnRows
import Derived.Deep.DeepCutAuto
import Derived.Outline
import Derived.IntWalk
import Derived.Lib.Bytealg

/- Layer 8: expressions that are the same. Condition: expressions that lie in memory that is there. -/
namespace Go.Proofs.YtbglmcebkpkccaaGreatDoor
open Go.RowKit
attribute [local go_sem] more_cell more_frozen more_more more_setCell more_of_drew more_of_drewN lt_more le_more past_cell past_cell2 past_frozen past_frozen2 past_setCell past_setCell2 mid_cell mid_frozen mid_setCell
attribute [local go_sem ↓] Go.wp_at_zero Go.wp_at_succ

theorem not_true {p : Prop} {t : Bool} (h : t = true ↔ p) (hn : ¬ p) : t = false := by
  cases t
  · rfl
  · exact absurd (h.1 rfl) hn
theorem is_true {p : Prop} {t : Bool} (h : t = true ↔ p) (hn : p) : t = true := h.2 hn
theorem some_bool (p : Prop) : ∃ t : Bool, (t = true ↔ p) := by
  by_cases h : p
  · exact ⟨true, by simp [h]⟩
  · exact ⟨false, by simp [h]⟩
theorem take_same {α : Type} {l m : List α} {j : Nat} (h : l.take j = m.take j) (h1 : j < l.length) (h2 : j < m.length) (he : l[j] = m[j]) : l.take (j + 1) = m.take (j + 1) := by
  rw [List.take_succ_eq_append_getElem h1, List.take_succ_eq_append_getElem h2, h, he]
theorem bytes_ext {a b : ByteArray} (h : a.toList = b.toList) : a = b := by
  apply ByteArray.ext
  apply Array.ext'
  rw [ByteArray.toList_eq] at h
  rw [ByteArray.toList_eq] at h
  exact h
def RSameAt (w : World) (cs cs' : Array Value) (l m : List Ex) (i : Value) (wr : World) : Prop :=
  ∃ j : Nat, j ≤ l.length ∧ i = .int .i64 j ∧ Grew w wr ∧ Blok wr w.heap.size 27 cs ∧ Blok wr (w.heap.size + 1) 27 cs' ∧ l.take j = m.take j
/-- Are all but the parts the same? -/
def headE (a b : Ex) : Prop := a.op = b.op ∧ a.tab = b.tab ∧ a.name = b.name ∧ a.t = b.t ∧ a.c = b.c ∧ a.vk = b.vk ∧ a.vi = b.vi ∧ a.vs = b.vs
theorem same_head {a b : Ex} (h : headE a b) : a = b ↔ a.l = b.l := ⟨fun e => by rw [e], fun e => Ex.ext' h.1 h.2.1 h.2.2.1 h.2.2.2.1 h.2.2.2.2.1 h.2.2.2.2.2.1 h.2.2.2.2.2.2.1 h.2.2.2.2.2.2.2 e⟩
theorem head_same {a b : Ex} (h : a = b) : headE a b := by subst h; exact ⟨rfl, rfl, rfl, rfl, rfl, rfl, rfl, rfl⟩
end Go.Proofs.YtbglmcebkpkccaaGreatDoor

/- Layer 8: how many parts expressions have, counted no further than a bound. Condition: expressions that lie in memory that is there. -/
namespace Go.Proofs.YtbglmcebkpkccaaGreatDoor
open Go.RowKit
attribute [local go_sem] more_cell more_frozen more_more more_setCell more_of_drew more_of_drewN lt_more le_more past_cell past_cell2 past_frozen past_frozen2 past_setCell past_setCell2 mid_cell mid_frozen mid_setCell
attribute [local go_sem ↓] Go.wp_at_zero Go.wp_at_succ

theorem nodesL_append (l m : List Ex) : nodesL (l ++ m) = nodesL l + nodesL m := by
  induction l with
  | nil => simp [nodesL]
  | cons x l ih => simp only [List.cons_append, nodesL, ih]; omega
theorem nodesL_take {l : List Ex} {i : Nat} (h : i < l.length) : nodesL (l.take (i + 1)) = nodesL (l.take i) + l[i].nodes := by
  rw [List.take_succ_eq_append_getElem h, nodesL_append]
  simp [nodesL]
def CountR (w : World) (x : Ex) (b : Nat) (e : Ending) (w' : World) : Prop := ∃ m : Nat, e = .returned (.int .i64 m) ∧ Grew w w' ∧ 1 ≤ m ∧ m ≤ b ∧ (m < b → x.nodes = m)
def CountAt (w : World) (cs : Array Value) (l : List Ex) (b : Nat) (v i : Value) (wr : World) : Prop :=
  ∃ j m : Nat, j ≤ l.length ∧ i = .int .i64 j ∧ v = .int .i64 m ∧ j + 1 ≤ m ∧ m ≤ b ∧ Grew w wr ∧ Blok wr w.heap.size 27 cs ∧ (m < b → 1 + nodesL (l.take j) = m)
set_option maxHeartbeats 2000000 in
theorem count_any (n : Nat) : ∀ (x : Ex), SizeOf.sizeOf x < n → ∀ (A : Option Addr) (k b : Nat), 1 ≤ b → b ≤ 400 → ∀ w, ExsR (PRow w) A x.l → Calls Tryz.prog 71 #[exV x A k, .int .i64 b] w (CountR w x b) := by
  induction n with
  | zero => intro x hn; omega
  | succ n ih =>
    intro x hn A k b hb1 hb4 w ra
    have hpart : ∀ y ∈ x.l, SizeOf.sizeOf y < n := fun y hy => by have := x.part_lt hy; omega
    have hx : x.nodes = 1 + nodesL x.l := nodes_eq x
    obtain ⟨op, tab, name, tt, c, vk, vi, vs, l⟩ := x
    simp only [Ex.l] at ra hpart hx
    have RA := Lib.hid ra
    have HI := Lib.hid (fun (y : Ex) (hy : y ∈ l) => ih y (hpart y hy))
    have HX := Lib.hid hx
    clear ra hpart ih hn hx
    generalize hxx : Ex.mk op tab name tt c vk vi vs l = xx at HX ⊢
    have hxv : exV xx A k = .agg #[.int .i64 op, .string tab, .string name, .int .i64 tt, .int .i64 c, .int .i64 vk, .int .i64 vi, .string vs, .slice A l.length k] := by subst hxx; rfl
    rw [hxv]
    clear hxv hxx
    go_enter Tryz.func71, Tryz.ntmps71
    go_upto_region 4 with fail
    · go_ret
      exact ⟨b, rfl, by (show Grew _ _; repeat (first | exact Grew.refl _ | refine Grew.alloc ?_ _ | refine Grew.drew ?_ | refine Grew.more ?_ _)), hb1, Nat.le_refl _, fun h => absurd h (Nat.lt_irrefl _)⟩
    · go_wp2
      go_loopw [5, 6] (fun v i wr => CountAt w #[.int .i64 op, .string tab, .string name, .int .i64 tt, .int .i64 c, .int .i64 vk, .int .i64 vi, .string vs, .slice A l.length k] l b v i wr) (fun _ i _ => l.length - (intOf i).toNat)
      case atStart => exact ⟨0, 1, Nat.zero_le _, rfl, rfl, Nat.le_refl _, hb1, by (show Grew _ _; repeat (first | exact Grew.refl _ | refine Grew.alloc ?_ _ | refine Grew.drew ?_ | refine Grew.more ?_ _)), Blok.new _ _ _ _ rfl, fun _ => by simp [nodesL]⟩
      case round =>
        obtain ⟨j, m, hj, rfl, rfl, h1, h2, hg, hb, hk⟩ := hrel
        have HG := Lib.hid hg
        have HB := Lib.hid hb
        have HK := Lib.hid hk
        have c8 := hb.cell 8
        have hlt0 := hb.lt
        simp at c8
        clear hg hb hk
        by_cases h : j < l.length
        · by_cases hmb : m < b
          · obtain ⟨ba, oa, PA, ka, rfl, hpa, h9⟩ := exsR_nine RA.out h
            obtain ⟨d, hd⟩ : ∃ d : Nat, d = b - m := ⟨_, rfl⟩
            have hd1 : 1 ≤ d := by omega
            have hdb : m + d = b := by omega
            have ed : (b : Int) - (m : Int) = (d : Int) := by omega
            have HC : Hid (∀ W, Grew w W → Calls Tryz.prog 71 #[exV l[j] PA ka, .int .i64 ((b : Int) - (m : Int))] W (CountR W l[j] d)) := Lib.hid fun W hW => by
              rw [ed]
              exact HI.out _ (List.getElem_mem h) _ _ d hd1 (by omega) W (hpa.grew hW)
            have HN := Lib.hid (nodesL_take h)
            obtain ⟨p0, a0, a1, a2, a3, a4, a5, a6, a7, a8⟩ := h9.grew HG.out
            clear h9 hpa HI ed hd
            generalize l[j] = y at *
            unfold exV at HC
            go_wp2_with (first | (go_at_call 71; (with_reducible refine (HC.out _ HG.out).mono ?_); rintro e w2 ⟨m2, rfl, hg2, q1, q2, q3⟩; have HG2 := Lib.hid hg2; clear hg2))
            exact ⟨⟨j + 1, m + m2, by omega, by go_num, by go_num, by omega, by omega, HG.out.trans HG2.out, HB.out.grew HG2.out, fun q => by rw [HN.out, q3 (by omega)]; have := HK.out hmb; omega⟩, by simp only [intOf]; omega⟩
          · have hmb' : (b : Int) ≤ m := by omega
            go_wp2
            go_ret
            exact ⟨m, rfl, HG.out, by omega, h2, fun q => absurd q hmb⟩
        · obtain rfl : j = l.length := by omega
          go_wp2
          go_ret
          refine ⟨m, rfl, HG.out, by omega, h2, fun q => ?_⟩
          have := HK.out q
          rw [List.take_length] at this
          rw [HX.out, this]
end Go.Proofs.YtbglmcebkpkccaaGreatDoor

/- Layer 8: expressions that are the same, by the program. Condition: expressions that lie in memory that is there. -/
namespace Go.Proofs.YtbglmcebkpkccaaGreatDoor
open Go.RowKit
attribute [local go_sem] more_cell more_frozen more_more more_setCell more_of_drew more_of_drewN lt_more le_more past_cell past_cell2 past_frozen past_frozen2 past_setCell past_setCell2 mid_cell mid_frozen mid_setCell
attribute [local go_sem ↓] Go.wp_at_zero Go.wp_at_succ
@[go_sem] theorem run_store_func {P : Program} (w : World) (a : Addr) (m : Mode) (fn : Fn) (fi ca : Array Value) : (store a (.func fn fi ca) m).run P w = stored P w a (.func fn fi ca) m := run_store P w a _ m rfl
def EqAt (w : World) (l m : List Ex) (i : Value) (wr : World) : Prop := ∃ j : Nat, j ≤ l.length ∧ i = .int .i64 j ∧ Grew w wr ∧ l.take j = m.take j
theorem some_zero_ex : True := trivial
end Go.Proofs.YtbglmcebkpkccaaGreatDoor

/- Layer 8: expressions that are the same, by the program. Condition: expressions that lie in memory that is there. -/
namespace Go.Proofs.YtbglmcebkpkccaaGreatDoor
open Go.RowKit
attribute [local go_sem] more_cell more_frozen more_more more_setCell more_of_drew more_of_drewN lt_more le_more past_cell past_cell2 past_frozen past_frozen2 past_setCell past_setCell2 mid_cell mid_frozen mid_setCell
attribute [local go_sem ↓] Go.wp_at_zero Go.wp_at_succ

end Go.Proofs.YtbglmcebkpkccaaGreatDoor

/- Layer 8: how many parts, how deep, which sums, how it binds. Condition: expressions that lie in memory that is there. -/
namespace Go.Proofs.YtbglmcebkpkccaaGreatDoor
open Go.RowKit
attribute [local go_sem] more_cell more_frozen more_more more_setCell more_of_drew more_of_drewN lt_more le_more past_cell past_cell2 past_frozen past_frozen2 past_setCell past_setCell2 mid_cell mid_frozen mid_setCell
attribute [local go_sem ↓] Go.wp_at_zero Go.wp_at_succ

mutual
def Ex.depth : Ex → Nat
  | .mk _ _ _ _ _ _ _ _ l => depthL l + 1
def depthL : List Ex → Nat
  | [] => 0
  | x :: l => max x.depth (depthL l)
end
theorem depth_eq (x : Ex) : x.depth = depthL x.l + 1 := by cases x; simp only [Ex.depth, Ex.l]
theorem depthL_append (l m : List Ex) : depthL (l ++ m) = max (depthL l) (depthL m) := by
  induction l with
  | nil => simp [depthL]
  | cons x l ih => simp only [List.cons_append, depthL, ih, Nat.max_assoc]
theorem depthL_take {l : List Ex} {i : Nat} (h : i < l.length) : depthL (l.take (i + 1)) = max (depthL (l.take i)) l[i].depth := by
  rw [List.take_succ_eq_append_getElem h, depthL_append]
  simp [depthL]
theorem depth_nodes (x : Ex) : x.depth ≤ x.nodes := by
  refine ex_ind (P := fun x => x.depth ≤ x.nodes) (fun x ih => ?_) x
  rw [depth_eq, nodes_eq]
  have : ∀ l : List Ex, (∀ y ∈ l, y.depth ≤ y.nodes) → depthL l ≤ nodesL l := by
    intro l
    induction l with
    | nil => intro _; simp [depthL, nodesL]
    | cons y l ih =>
      intro h
      have h1 := h y (by simp)
      have h2 := ih fun z hz => h z (by simp [hz])
      simp only [depthL, nodesL]
      omega
  have := this x.l ih
  omega
mutual
def Ex.sums : Ex → Bool
  | .mk op _ _ _ _ _ _ _ l => decide (17 ≤ op ∧ op ≤ 21) || sumsL l
def sumsL : List Ex → Bool
  | [] => false
  | x :: l => x.sums || sumsL l
end
theorem sums_eq (x : Ex) : x.sums = (decide (17 ≤ x.op ∧ x.op ≤ 21) || sumsL x.l) := by cases x; rw [Ex.sums]; rfl
theorem sumsL_append (l m : List Ex) : sumsL (l ++ m) = (sumsL l || sumsL m) := by
  induction l with
  | nil => simp [sumsL]
  | cons x l ih => simp only [List.cons_append, sumsL, ih, Bool.or_assoc]
theorem sumsL_take {l : List Ex} {i : Nat} (h : i < l.length) : sumsL (l.take (i + 1)) = (sumsL (l.take i) || l[i].sums) := by
  rw [List.take_succ_eq_append_getElem h, sumsL_append]
  simp [sumsL]
theorem sumsL_some {l : List Ex} {i : Nat} (h : i < l.length) (hs : l[i].sums = true) : sumsL l = true := by
  have e : l = l.take i ++ l.drop i := (List.take_append_drop i l).symm
  rw [e, sumsL_append, List.drop_eq_getElem_cons h]
  simp [sumsL, hs]

theorem blok_set1 {w : World} {c : Nat} {t : TypeId} {a : Value} (h : Blok w c t #[a]) (v : Value) : Blok (w.setCell ⟨c, 0, none⟩ v) c t #[v] := by
  have := h.set 0 v
  simpa using this
theorem Turns.alloc {w w' : World} {c : Nat} (h : Turns w w' c) (o : Obj) : Turns w (w'.alloc o) c := h.grew ((Grew.refl w').alloc o)
end Go.Proofs.YtbglmcebkpkccaaGreatDoor

/- Layer 8: how many parts, how deep, which sums, how it binds. Condition: expressions that lie in memory that is there. -/
namespace Go.Proofs.YtbglmcebkpkccaaGreatDoor
open Go.RowKit
attribute [local go_sem] more_cell more_frozen more_more more_setCell more_of_drew more_of_drewN lt_more le_more past_cell past_cell2 past_frozen past_frozen2 past_setCell past_setCell2 mid_cell mid_frozen mid_setCell
attribute [local go_sem ↓] Go.wp_at_zero Go.wp_at_succ

end Go.Proofs.YtbglmcebkpkccaaGreatDoor

namespace Go.Proofs.YtbglmcebkpkccaaGreatDoor
open Go.RowKit
attribute [local go_sem] more_cell more_frozen more_more more_setCell more_of_drew more_of_drewN lt_more le_more past_cell past_cell2 past_frozen past_frozen2 past_setCell past_setCell2 mid_cell mid_frozen mid_setCell
attribute [local go_sem ↓] Go.wp_at_zero Go.wp_at_succ

def IndexR (w : World) (t : Bool) (e : Ending) (w' : World) : Prop := ∃ r : Int, e = .returned (.int .i64 r) ∧ Grew w w' ∧ (decide (0 ≤ r) = t)
def IndexAt (w : World) (l : List Ex) (i : Value) (wr : World) : Prop := ∃ j : Nat, j ≤ l.length ∧ i = .int .i64 j ∧ Grew w wr ∧ sumsL (l.take j) = false
theorem sums_in {x : Ex} (h : 17 ≤ x.op ∧ x.op ≤ 21) : x.sums = true := by rw [sums_eq, decide_eq_true h]; rfl
theorem sums_out {x : Ex} (h : ¬ (17 ≤ x.op ∧ x.op ≤ 21)) : x.sums = sumsL x.l := by rw [sums_eq, decide_eq_false h]; rfl
def levelI (op : Int) : Int :=
  if op = 11 then 1 else if op = 10 then 2 else if op = 12 then 3 else if (1 ≤ op ∧ op ≤ 6) ∨ op = 13 ∨ op = 14 then 4 else if op = 7 ∨ op = 8 then 5 else if op = 9 then 6 else 7
def argsI (op : Int) : Int := if 1 ≤ op ∧ op ≤ 11 then 2 else if (12 ≤ op ∧ op ≤ 14) ∨ (18 ≤ op ∧ op ≤ 21) then 1 else 0
end Go.Proofs.YtbglmcebkpkccaaGreatDoor
