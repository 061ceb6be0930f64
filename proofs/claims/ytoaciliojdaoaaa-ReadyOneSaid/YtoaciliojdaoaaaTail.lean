/- A region that draws its order, whose first operations are walked in one order under a condition on the world, the others in every order. No condition. -/
import Derived.Test.YtoaciliojdaoaaaHead
import Derived.Deep.RegionWith
namespace Go.Proofs.Ytoaciliojdaoaaa
open Go.RowKit
section
variable {P : Program} {ops : Array Oper} {Q : Exit → Act → World → Prop} {S : World → Prop}
/-- The tail, in whatever order. -/
def TailT (P : Program) (ops : Array Oper) (Q : Exit → Act → World → Prop) (n g : Nat) (listed : Array Bool) (a : Act) (w : World) : Prop :=
  (∀ j ∈ Region.ready .any ops listed, n ≤ j) ∧ wpAny P .any ops Q g listed a w
theorem wp_region_tail (S : World → Prop) (n g : Nat) {id : Nat} {a : Act} {w : World} (hk : ops.size = n + g) (hm : P.follows .mixedOrders = true)
    (h : wpHeadH P .any ops Q S n (TailT P ops Q n g) n (Array.replicate ops.size false) a w.drew) : (Code.region id ops true).wp P Q a w := by
  refine wp_region_any hm ?_
  rw [hk]
  exact wpAny_of_wpHeadH (S := S) (n := n) (T := TailT P ops Q n g) (fun listed a w h => h.2) n _ a _ (by rw [hk] at h; exact h)
/-- Each operation of the tail waits for each one ahead of it. -/
def directB (ops : Array Oper) (n : Nat) : Bool := (List.range ops.size).all fun j => decide (j < n) || match ops[j]? with
  | none => true
  | some oj => (List.range n).all fun i => oj.after.any fun e => Region.binds .any e && e.on == i
theorem direct_waits {n i : Nat} {listed : Array Bool} (hd : directB ops n = true) (hin : i < n) (hun : listed.getD i true = false) (j : Nat) (hj : n ≤ j) : j ∉ Region.ready .any ops listed := by
  intro hm
  obtain ⟨_, oj, hoj, hall⟩ := mem_ready.1 hm
  have hjs : j < ops.size := (Array.getElem?_eq_some_iff.1 hoj).1
  unfold directB at hd
  have h1 := List.all_eq_true.1 hd j (List.mem_range.2 hjs)
  rw [hoj] at h1
  simp only [Bool.or_eq_true, decide_eq_true_eq] at h1
  rcases h1 with h1 | h1
  · omega
  · have h2 := List.all_eq_true.1 h1 i (List.mem_range.2 hin)
    obtain ⟨e, he, h3⟩ := Array.any_eq_true'.1 h2
    simp only [Bool.and_eq_true, beq_iff_eq] at h3
    have h4 := hall e he h3.1
    rw [h3.2, getD_both hun] at h4
    cases h4
theorem wpHeadD_first {T : Array Bool → Act → World → Prop} {n i : Nat} {oi : Oper} {v : Value} (hi : ops[i]? = some oi) (hsel : ∀ (j : Nat) (o : Oper) cs b, ops[j]? = some o → o.op ≠ .select cs b)
    (hd : directB ops n = true) (hin : i < n) (hQ : ∀ c a w, Q (.panic c) (a.put oi.dst v) w → Q (.panic c) a w) (hdone : ∀ listed a w, T listed a w → ∀ j ∈ Region.ready .any ops listed, n ≤ j) :
    ∀ (f : Nat) (listed : Array Bool) (a : Act) (w : World),
      (∀ j oj, ops[j]? = some oj → j ≠ i → listed.getD j true = false → (∀ e ∈ oj.after, Region.binds .any e = true → e.on ≠ i) → oi.apart ops oj = true) →
      i ∈ Region.ready .any ops listed → YieldsIf P ops S oi v a → S w →
      wpHeadH P .any ops Q S n T f (listed.setIfInBounds i true) (a.put oi.dst v) w → wpHeadH P .any ops Q S n T (f + 1) listed a w := by
  intro f
  induction f with
  | zero =>
    intro listed a w _ hr hy hS hT
    have hun := (mem_ready.1 hr).1
    refine ⟨fun h => (by rw [h] at hr; cases hr), fun j hj => ?_⟩
    have hjn : j < n := by
      rcases Nat.lt_or_ge j n with h | h
      · exact h
      · exact absurd hj (direct_waits hd hin hun j h)
    refine ⟨hjn, ?_⟩
    by_cases hji : j = i
    · subst hji; exact hy.wpOp hi hS ⟨hS, hT⟩
    · have := hdone _ _ _ hT j (ready_mono hj hji)
      omega
  | succ f ih =>
    intro listed a w hfree hr hy hS hT
    have hun := (mem_ready.1 hr).1
    refine ⟨fun h => (by rw [h] at hr; cases hr), fun j hj => ?_⟩
    have hjn : j < n := by
      rcases Nat.lt_or_ge j n with h | h
      · exact h
      · exact absurd hj (direct_waits hd hin hun j h)
    refine ⟨hjn, ?_⟩
    by_cases hji : j = i
    · subst hji; exact hy.wpOp hi hS ⟨hS, hT⟩
    · have h1 := (hT.2 j (ready_mono hj hji)).2
      obtain ⟨hjun, oj, hoj, hall⟩ := mem_ready.1 hj
      have hnot : ∀ e ∈ oj.after, Region.binds .any e = true → e.on ≠ i := fun e he hb heq => by
        have h3 := hall e he hb
        rw [heq, getD_both hun] at h3
        cases h3
      have h2 := wpOp_putIf hoj (hfree j oj hoj hji hjun hnot) (fun cs b => hsel i oi cs b hi) (fun cs b => hsel j oj cs b hoj) hQ hy h1
      have hfree' : ∀ k ok, ops[k]? = some ok → k ≠ i → (listed.setIfInBounds j true).getD k true = false →
          (∀ e ∈ ok.after, Region.binds .any e = true → e.on ≠ i) → oi.apart ops ok = true := fun k ok hk hki hu hno => by
        refine hfree k ok hk hki ?_ hno
        by_cases hjk : j = k
        · subst hjk; exact hjun
        · rw [getD_set_ne true hjk] at hu; exact hu
      refine wpOp_mono (fun a' w' h3 => ⟨h3.2.1, ih (listed.setIfInBounds j true) a' w' hfree' (ready_mono hr (Ne.symm hji)) h3.1 h3.2.1 ?_⟩) h2
      rw [Array.setIfInBounds_comm _ _ hji]
      exact h3.2.2
theorem tail_take (i : Nat) {n g : Nat} {oi : Oper} {v : Value} {f : Nat} {listed : Array Bool} {a : Act} {w : World} (hi : ops[i]? = some oi) (hs : Region.noSelect ops = true)
    (hb : (directB ops n && decide (i < n)) = true)
    (hf : Region.free .any ops listed i = true) (hr : (Region.ready .any ops listed).contains i = true)
    (hQ : ∀ c a w, Q (.panic c) (a.put oi.dst v) w → Q (.panic c) a w) (hw : Region.wanted oi (yielded ops a.tmps) = true)
    (hy : ∀ W, S W → (execOp a.eval oi).run P W = .ok (.value v) W) (hS : S w)
    (h : wpHeadH P .any ops Q S n (TailT P ops Q n g) f (listed.setIfInBounds i true) (a.put oi.dst v) w) : wpHeadH P .any ops Q S n (TailT P ops Q n g) (f + 1) listed a w := by
  simp only [Bool.and_eq_true, decide_eq_true_eq] at hb
  obtain ⟨b1, b4⟩ := hb
  exact wpHeadD_first hi (Region.noSelect_spec hs) b1 b4 hQ (fun l a w hT j hj => hT.1 j hj) f listed a w (Region.free_spec hi hf) (by simpa using hr) (Or.inl ⟨hw, hy⟩) hS h
theorem tail_call (i : Nat) {n g : Nat} {o : Oper} {f : Nat} {listed : Array Bool} {a : Act} {w : World} (hr : Region.ready .any ops listed = [i]) (hik : decide (i < n) = true) (ho : ops[i]? = some o) (hw : Region.wanted o (yielded ops a.tmps) = true)
    (h : ∀ K' : Act → World → Prop, Hid (∀ a W, S W → wpHeadH P .any ops Q S n (TailT P ops Q n g) f (listed.setIfInBounds i true) a W → K' a W) → Oper.wp P o a w K' Q) : wpHeadH P .any ops Q S n (TailT P ops Q n g) (f + 1) listed a w := by
  refine ⟨by rw [hr]; simp, fun j hj => ?_⟩
  rw [hr] at hj
  obtain rfl : j = i := by simpa using hj
  refine ⟨by simpa using hik, wpOp_step ho (fun K' hK => ?_)⟩
  rw [if_pos hw]
  exact h K' (Lib.hid fun a W hG hW => hK a W ⟨hG, hW⟩)
/-- Two operations are ready. -/
theorem tail_both (i j : Nat) {n g : Nat} {oi oj : Oper} {f : Nat} {listed : Array Bool} {a : Act} {w : World} (hr : Region.ready .any ops listed = [i, j]) (hin : (decide (i < n) && decide (j < n)) = true) (hoi : ops[i]? = some oi) (hoj : ops[j]? = some oj)
    (hwi : Region.wanted oi (yielded ops a.tmps) = true) (hwj : Region.wanted oj (yielded ops a.tmps) = true)
    (hi : ∀ K' : Act → World → Prop, Hid (∀ a W, S W → wpHeadH P .any ops Q S n (TailT P ops Q n g) f (listed.setIfInBounds i true) a W → K' a W) → Oper.wp P oi a w K' Q)
    (hj : ∀ K' : Act → World → Prop, Hid (∀ a W, S W → wpHeadH P .any ops Q S n (TailT P ops Q n g) f (listed.setIfInBounds j true) a W → K' a W) → Oper.wp P oj a w K' Q) : wpHeadH P .any ops Q S n (TailT P ops Q n g) (f + 1) listed a w := by
  simp only [Bool.and_eq_true, decide_eq_true_eq] at hin
  refine ⟨by rw [hr]; simp, fun m hm => ?_⟩
  rw [hr] at hm
  simp only [List.mem_cons, List.not_mem_nil, or_false] at hm
  rcases hm with rfl | rfl
  · refine ⟨hin.1, wpOp_step hoi (fun K' hK => ?_)⟩
    rw [if_pos hwi]
    exact hi K' (Lib.hid fun a W hG hW => hK a W ⟨hG, hW⟩)
  · refine ⟨hin.2, wpOp_step hoj (fun K' hK => ?_)⟩
    rw [if_pos hwj]
    exact hj K' (Lib.hid fun a W hG hW => hK a W ⟨hG, hW⟩)
theorem tail_norm {n g f : Nat} {listed : Array Bool} {a a' : Act} {w : World} (ha : a = a') (h : wpHeadH P .any ops Q S n (TailT P ops Q n g) f listed a' w) : wpHeadH P .any ops Q S n (TailT P ops Q n g) f listed a w := ha ▸ h
theorem tail_done {n g : Nat} {listed : Array Bool} {a : Act} {w : World} (hr : ((Region.ready .any ops listed).all fun j => decide (n ≤ j)) = true) (h : wpAny P .any ops Q g listed a w) : wpHeadH P .any ops Q S n (TailT P ops Q n g) 0 listed a w := by
  refine ⟨fun j hj => ?_, h⟩
  have := List.all_eq_true.1 hr j hj
  exact of_decide_eq_true this
end
end Go.Proofs.Ytoaciliojdaoaaa
