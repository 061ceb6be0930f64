/- Layer 8: how many parts, how deep, which sums, how it binds. Condition: expressions that lie in memory that is there. -/
import Derived.Test.YtcokhgomibimcaaTree4
namespace Go.Proofs.Ytcokhgomibimcaa
open Go.RowKit
attribute [local go_sem] more_cell more_frozen more_more more_setCell more_of_drew more_of_drewN lt_more le_more past_cell past_cell2 past_frozen past_frozen2 past_setCell past_setCell2 mid_cell mid_frozen mid_setCell
attribute [local go_sem ↓] Go.wp_at_zero Go.wp_at_succ

mutual
def Ex.depth : Ex → Nat
  | .mk _ _ _ _ _ _ _ _ l => depthL l + 1
def depthL : List Ex → Nat
  | [] => 0
  | x :: l => max x.depth (depthL l)
end
theorem depth_eq (x : Ex) : x.depth = depthL x.l + 1 := by cases x; simp only [Ex.depth, Ex.l]
theorem depthL_append (l m : List Ex) : depthL (l ++ m) = max (depthL l) (depthL m) := by
  induction l with
  | nil => simp [depthL]
  | cons x l ih => simp only [List.cons_append, depthL, ih, Nat.max_assoc]
theorem depthL_take {l : List Ex} {i : Nat} (h : i < l.length) : depthL (l.take (i + 1)) = max (depthL (l.take i)) l[i].depth := by
  rw [List.take_succ_eq_append_getElem h, depthL_append]
  simp [depthL]
theorem depth_nodes (x : Ex) : x.depth ≤ x.nodes := by
  refine ex_ind (P := fun x => x.depth ≤ x.nodes) (fun x ih => ?_) x
  rw [depth_eq, nodes_eq]
  have : ∀ l : List Ex, (∀ y ∈ l, y.depth ≤ y.nodes) → depthL l ≤ nodesL l := by
    intro l
    induction l with
    | nil => intro _; simp [depthL, nodesL]
    | cons y l ih =>
      intro h
      have h1 := h y (by simp)
      have h2 := ih fun z hz => h z (by simp [hz])
      simp only [depthL, nodesL]
      omega
  have := this x.l ih
  omega
mutual
def Ex.sums : Ex → Bool
  | .mk op _ _ _ _ _ _ _ l => decide (17 ≤ op ∧ op ≤ 21) || sumsL l
def sumsL : List Ex → Bool
  | [] => false
  | x :: l => x.sums || sumsL l
end
theorem sums_eq (x : Ex) : x.sums = (decide (17 ≤ x.op ∧ x.op ≤ 21) || sumsL x.l) := by cases x; rw [Ex.sums]; rfl
theorem sumsL_append (l m : List Ex) : sumsL (l ++ m) = (sumsL l || sumsL m) := by
  induction l with
  | nil => simp [sumsL]
  | cons x l ih => simp only [List.cons_append, sumsL, ih, Bool.or_assoc]
theorem sumsL_take {l : List Ex} {i : Nat} (h : i < l.length) : sumsL (l.take (i + 1)) = (sumsL (l.take i) || l[i].sums) := by
  rw [List.take_succ_eq_append_getElem h, sumsL_append]
  simp [sumsL]
theorem sumsL_some {l : List Ex} {i : Nat} (h : i < l.length) (hs : l[i].sums = true) : sumsL l = true := by
  have e : l = l.take i ++ l.drop i := (List.take_append_drop i l).symm
  rw [e, sumsL_append, List.drop_eq_getElem_cons h]
  simp [sumsL, hs]

/-- The variable that holds the function that counts. -/
def CountAs (w : World) (g c : Nat) : Prop := Blok w g 135 #[.func (.func 110) #[] #[.pointer (some ⟨c, 0, none⟩), .pointer (some ⟨g, 0, none⟩)]]
def NodesR (u w : World) (g c : Nat) (m : Nat) (e : Ending) (w' : World) : Prop := e = .returned (.tuple #[]) ∧ Grew u w' ∧ CountAs w' g c ∧ Blok w' c 3 #[.int .i64 m] ∧ Turns w w' c
def NodesAt (u w : World) (g c : Nat) (m : Nat) (l : List Ex) (i : Value) (wr : World) : Prop :=
  ∃ j : Nat, j ≤ l.length ∧ i = .int .i64 j ∧ Grew u wr ∧ CountAs wr g c ∧ Blok wr c 3 #[.int .i64 ((m + 1 + nodesL (l.take j) : Nat) : Int)] ∧ Turns w wr c
theorem blok_set1 {w : World} {c : Nat} {t : TypeId} {a : Value} (h : Blok w c t #[a]) (v : Value) : Blok (w.setCell ⟨c, 0, none⟩ v) c t #[v] := by
  have := h.set 0 v
  simpa using this
theorem Turns.alloc {w w' : World} {c : Nat} (h : Turns w w' c) (o : Obj) : Turns w (w'.alloc o) c := h.grew ((Grew.refl w').alloc o)
set_option maxHeartbeats 2000000 in
theorem nodesc_ex (n : Nat) : ∀ (x : Ex), SizeOf.sizeOf x < n → ∀ (A : Option Addr) (k : Nat) (m g c : Nat) (u w : World), m + x.nodes ≤ 1000000 → Grew u w → u.heap.size ≤ c → g ≠ c → ExsR (PRow u) A x.l → CountAs w g c → Blok w c 3 #[.int .i64 m] →
    Calls Try.prog 110 #[exV x A k, .pointer (some ⟨c, 0, none⟩), .pointer (some ⟨g, 0, none⟩)] w (NodesR u w g c (m + x.nodes)) := by
  induction n with
  | zero => intro x hn; omega
  | succ n ih =>
    intro x hn A k m g c u w hm hu hc hgc ra hs hb
    have hpart : ∀ y ∈ x.l, SizeOf.sizeOf y < n := fun y hy => by have := x.part_lt hy; omega
    have hx : x.nodes = 1 + nodesL x.l := nodes_eq x
    rw [hx] at hm ⊢
    obtain ⟨op, tab, name, tt, cc, vk, vi, vs, l⟩ := x
    simp only [Ex.l] at ra hpart hm ⊢
    have RA := Lib.hid ra
    have HI := Lib.hid (fun (y : Ex) (hy : y ∈ l) => ih y (hpart y hy))
    have HU := Lib.hid hu
    have HS := Lib.hid hs
    have HB := Lib.hid hb
    have c0 : w.cell? ⟨c, 0, none⟩ = some (.int .i64 m) := hb.cell 0
    have z0 := hb.thaw 0
    have hcl := hb.lt
    have hNL := nodesL_len l
    unfold exV
    simp only [Ex.op, Ex.tab, Ex.name, Ex.t, Ex.c, Ex.vk, Ex.vi, Ex.vs, Ex.l]
    clear ra ih hpart hn hx hu hs hb
    go_enter Try.func110, Try.ntmps110
    go_wp2_with fail
    have s0 : NodesAt u w g c m l (.int .i64 0) ((w.setCell ⟨c, 0, none⟩ (.int .i64 ((m : Int) + 1))).alloc (.cells #[.int .i64 op, .string tab, .string name, .int .i64 tt, .int .i64 cc, .int .i64 vk, .int .i64 vi, .string vs, .slice A l.length k] 54)) :=
      ⟨0, Nat.zero_le _, rfl, (HU.out.setCell (a := ⟨c, 0, none⟩) hc _).alloc _, (HS.out.far (p := ⟨c, 0, none⟩) hgc _).alloc _, by
        have := (blok_set1 HB.out (.int .i64 ((m : Int) + 1))).alloc (.cells #[.int .i64 op, .string tab, .string name, .int .i64 tt, .int .i64 cc, .int .i64 vk, .int .i64 vi, .string vs, .slice A l.length k] 54)
        simpa [nodesL] using this, ((Turns.refl w c).set 0 _).alloc _⟩
    have S0 := Lib.hid s0
    clear s0 c0 z0 hcl HS HB HU
    go_loopw [11] (fun i wr => NodesAt u w g c m l i wr) (fun i _ => l.length - (intOf i).toNat)
    case atStart => exact S0.out
    case round =>
      obtain ⟨j, hj, rfl, hg, hs, hb, ht⟩ := hrel
      have HG := Lib.hid hg
      have HS := Lib.hid hs
      have HB := Lib.hid hb
      have HTu := Lib.hid ht
      have c1 : wr.cell? ⟨g, 0, none⟩ = some (.func (.func 110) #[] #[.pointer (some ⟨c, 0, none⟩), .pointer (some ⟨g, 0, none⟩)]) := hs.cell 0
      have hgl : g < wr.heap.size := hs.lt
      clear hg hs hb ht S0
      by_cases h : j < l.length
      · obtain ⟨ba, oa, PA, ka, rfl, hpa, h9⟩ := exsR_nine RA.out h
        have HN := Lib.hid (nodesL_take h)
        have hbd : m + 1 + nodesL (l.take j) + l[j].nodes ≤ 1000000 := by
          rw [Nat.add_assoc, ← HN.out]
          have e : nodesL l = nodesL (l.take (j + 1)) + nodesL (l.drop (j + 1)) := by rw [← nodesL_append, List.take_append_drop]
          omega
        have HC : Hid (∀ W, Grew wr W → Calls Try.prog 110 #[exV l[j] PA ka, .pointer (some ⟨c, 0, none⟩), .pointer (some ⟨g, 0, none⟩)] W (NodesR u W g c (m + 1 + nodesL (l.take j) + l[j].nodes))) := Lib.hid fun W hW =>
          HI.out _ (List.getElem_mem h) _ _ _ g c u W hbd (HG.out.trans hW) hc hgc hpa (Blok.grew HS.out hW) (HB.out.grew hW)
        obtain ⟨p0, a0, a1, a2, a3, a4, a5, a6, a7, a8⟩ := h9.grew HG.out
        have hll : l.length ≤ 1000000 := by omega
        clear h9 hpa HI hbd hNL hm
        generalize l[j] = y at *
        unfold exV at HC
        go_wp2_with (first | (go_at_call 110; (with_reducible refine (HC.out _ ((Grew.refl wr).alloc _)).mono ?_); rintro e w2 ⟨rfl, hg2, hs2, hb2, ht2⟩; have HG2 := Lib.hid hg2; have HS2 := Lib.hid hs2; have HB2 := Lib.hid hb2; have HT2 := Lib.hid ht2; clear hg2 hs2 hb2 ht2))
        exact ⟨⟨j + 1, by omega, by go_num, HG2.out, HS2.out, by rw [HN.out, ← Nat.add_assoc]; exact HB2.out, (HTu.out.alloc _).trans HT2.out⟩, by simp only [intOf]; omega⟩
      · obtain rfl : j = l.length := by omega
        go_wp2
        first | go_end0 | trace_state
        refine ⟨rfl, HG.out, HS.out, ?_, HTu.out⟩
        have := HB.out
        rw [List.take_length, Nat.add_assoc] at this
        exact this
end Go.Proofs.Ytcokhgomibimcaa
