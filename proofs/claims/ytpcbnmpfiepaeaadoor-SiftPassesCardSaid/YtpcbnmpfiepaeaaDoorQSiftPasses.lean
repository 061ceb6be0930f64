/- The statement SiftPassesSaid: for every input the law returns true, and each argument reads as it did. No condition beyond the row's own. -/
import Derived.Test.YtpcbnmpfiepaeaaDoorBloom5
import Derived.Test.YtpcbnmpfiepaeaaDoorHead
import Derived.Deep.RegionWith
import Derived.Test.YtpcbnmpfiepaeaaDoorSUni
import Derived.Test.YtpcbnmpfiepaeaaDoorSift4
import Derived.Test.YtpcbnmpfiepaeaaDoorVls
import Derived.Test.YtpcbnmpfiepaeaaDoorApp2
import Derived.Test.YtpcbnmpfiepaeaaDoorVal
import Derived.Deep.DeepCutAuto
import Derived.Test.YtpcbnmpfiepaeaaDoorGoodRow
import Derived.Test.YtpcbnmpfiepaeaaDoorBloom2
import Derived.Test.YtpcbnmpfiepaeaaDoorRefW
import Derived.Test.YtpcbnmpfiepaeaaDoorSpanH
import Derived.RegionTactic
import Derived.Test.YtpcbnmpfiepaeaaDoorRef20
import Derived.Test.YtpcbnmpfiepaeaaDoorTab
import Derived.Test.YtpcbnmpfiepaeaaDoorFrame2
import Derived.Test.YtpcbnmpfiepaeaaDoorTie
import Derived.Test.YtpcbnmpfiepaeaaDoorCards
import Derived.ProofKit
import Derived.LaidMore
import Derived.Lib.LaidTab
import Derived.Stop.LaidErr
import Derived.Stop.Joined
import Derived.SevenTiedAt

/- Layer 18: the union of two filters of one shape. Condition: as many words as there may be. -/
namespace Go.Proofs.YtpcbnmpfiepaeaaDoor
open Go.RowKit
attribute [local go_sem] more_cell more_frozen more_more more_setCell more_of_drew more_of_drewN lt_more le_more past_cell past_cell2 past_frozen past_frozen2 past_setCell past_setCell2 mid_cell mid_frozen mid_setCell
attribute [local go_sem ↓] Go.wp_at_zero Go.wp_at_succ

def UnionF (w : World) (ws : List Nat) (n k : Nat) (e : Ending) (w' : World) : Prop := ∃ g c, e = .returned (.tuple #[.agg #[.slice (some ⟨g, 0, none⟩) n c, .int .i64 k], .int .i64 0]) ∧ (∃ x, w' = more w x) ∧ URow w' (some ⟨g, 0, none⟩) ws
def ClonedF (w : World) (ws : List Nat) (n : Nat) (e : Ending) (w' : World) : Prop := ∃ g c, e = .returned (.slice (some ⟨g, 0, none⟩) n c) ∧ w'.ownsRow w.heap.size 51 1 (.slice (some ⟨g, 0, none⟩) n c) n (uV ws) ∧ ∃ x, w' = more w x
theorem uclone_to (l : List Nat) (b n c : Nat) (hn : l.length = n) (h0 : 0 < n) (hl : n ≤ 1000000) (w : World) (hr : URow w (some ⟨b, 0, none⟩) l) : Calls Tryd.prog 37 #[.slice (some ⟨b, 0, none⟩) n c] w (ClonedF w l n) := by
  subst hn
  exact uclone_any l b 0 _ c rfl h0 hl w hr
/-- While words are joined. -/
structure UniAt (w : World) (T : TypeId) (g6 g2 c2 gb d n k : Nat) (ws vs : List Nat) (j : Nat) (wr : World) : Prop where
  own : wr.ownsRow (w.heap.size + 3) 51 1 (.slice (some ⟨g2, 0, none⟩) n c2) n (uV (unionT ws vs j))
  out : Blok wr g6 T #[.slice (some ⟨g2, 0, none⟩) n c2, .int .i64 k]
  box : Blok wr (w.heap.size + 1) T #[.slice (some ⟨gb, 0, none⟩) n d, .int .i64 k]
  res : Blok wr (w.heap.size + 2) T #[.slice none 0 0, .int .i64 0]
  grew : Grew w wr
def UniRel (w : World) (T : TypeId) (g6 g2 c2 gb d n k : Nat) (ws vs : List Nat) (i : Value) (wr : World) : Prop := ∃ j : Nat, j ≤ n ∧ i = .int .i64 j ∧ UniAt w T g6 g2 c2 gb d n k ws vs j wr
theorem own_swap {u : World} {o o' : Obj} {x : Xs} {base : Nat} {e : TypeId} {v : Value} {n : Nat} {xs : List Value} (h : (more (u.alloc o) x).ownsRow base e 1 v n xs) (hb : u.heap.size + 1 ≤ base) : (more (u.alloc o') x).ownsRow base e 1 v n xs := by
  obtain ⟨h1, h2⟩ := h
  refine ⟨h1, ?_⟩
  rcases h2 with h2 | ⟨g, cap, cur, hv, hg, hh, hr⟩
  · exact Or.inl h2
  · refine Or.inr ⟨g, cap, cur, hv, hg, ?_, hr⟩
    rw [← hh]
    simp only [more, World.alloc]
    rw [Array.getElem?_append_right (by simp; omega), Array.getElem?_append_right (by simp; omega)]
    simp
theorem own_here {w : World} {base : Nat} {e : TypeId} {n c : Nat} {g : Nat} {xs : List Value} (h : w.ownsRow base e 1 (.slice (some ⟨g, 0, none⟩) n c) n xs) : base ≤ g ∧ g < w.heap.size := ⟨own_base h g rfl, own_lt h g rfl⟩
end Go.Proofs.YtpcbnmpfiepaeaaDoor

/- A region that draws its order, whose first operations are walked in one order under a condition on the world, the others in every order. No condition. -/
namespace Go.Proofs.YtpcbnmpfiepaeaaDoor
open Go.RowKit
section
variable {P : Program} {ops : Array Oper} {Q : Exit → Act → World → Prop} {S : World → Prop}
/-- The tail, in whatever order. -/
def TailT (P : Program) (ops : Array Oper) (Q : Exit → Act → World → Prop) (n g : Nat) (listed : Array Bool) (a : Act) (w : World) : Prop :=
  (∀ j ∈ Region.ready .any ops listed, n ≤ j) ∧ wpAny P .any ops Q g listed a w
theorem wp_region_tail (S : World → Prop) (n g : Nat) {id : Nat} {a : Act} {w : World} (hk : ops.size = n + g) (hm : P.follows .mixedOrders = true)
    (h : wpHeadH P .any ops Q S n (TailT P ops Q n g) n (Array.replicate ops.size false) a w.drew) : (Code.region id ops true).wp P Q a w := by
  refine wp_region_any hm ?_
  rw [hk]
  exact wpAny_of_wpHeadH (S := S) (n := n) (T := TailT P ops Q n g) (fun listed a w h => h.2) n _ a _ (by rw [hk] at h; exact h)
/-- Each operation of the tail waits for each one ahead of it. -/
def directB (ops : Array Oper) (n : Nat) : Bool := (List.range ops.size).all fun j => decide (j < n) || match ops[j]? with
  | none => true
  | some oj => (List.range n).all fun i => oj.after.any fun e => Region.binds .any e && e.on == i
theorem direct_waits {n i : Nat} {listed : Array Bool} (hd : directB ops n = true) (hin : i < n) (hun : listed.getD i true = false) (j : Nat) (hj : n ≤ j) : j ∉ Region.ready .any ops listed := by
  intro hm
  obtain ⟨_, oj, hoj, hall⟩ := mem_ready.1 hm
  have hjs : j < ops.size := (Array.getElem?_eq_some_iff.1 hoj).1
  unfold directB at hd
  have h1 := List.all_eq_true.1 hd j (List.mem_range.2 hjs)
  rw [hoj] at h1
  simp only [Bool.or_eq_true, decide_eq_true_eq] at h1
  rcases h1 with h1 | h1
  · omega
  · have h2 := List.all_eq_true.1 h1 i (List.mem_range.2 hin)
    obtain ⟨e, he, h3⟩ := Array.any_eq_true'.1 h2
    simp only [Bool.and_eq_true, beq_iff_eq] at h3
    have h4 := hall e he h3.1
    rw [h3.2, getD_both hun] at h4
    cases h4
theorem wpHeadD_first {T : Array Bool → Act → World → Prop} {n i : Nat} {oi : Oper} {v : Value} (hi : ops[i]? = some oi) (hsel : ∀ (j : Nat) (o : Oper) cs b, ops[j]? = some o → o.op ≠ .select cs b)
    (hd : directB ops n = true) (hin : i < n) (hQ : ∀ c a w, Q (.panic c) (a.put oi.dst v) w → Q (.panic c) a w) (hdone : ∀ listed a w, T listed a w → ∀ j ∈ Region.ready .any ops listed, n ≤ j) :
    ∀ (f : Nat) (listed : Array Bool) (a : Act) (w : World),
      (∀ j oj, ops[j]? = some oj → j ≠ i → listed.getD j true = false → (∀ e ∈ oj.after, Region.binds .any e = true → e.on ≠ i) → oi.apart ops oj = true) →
      i ∈ Region.ready .any ops listed → YieldsIf P ops S oi v a → S w →
      wpHeadH P .any ops Q S n T f (listed.setIfInBounds i true) (a.put oi.dst v) w → wpHeadH P .any ops Q S n T (f + 1) listed a w := by
  intro f
  induction f with
  | zero =>
    intro listed a w _ hr hy hS hT
    have hun := (mem_ready.1 hr).1
    refine ⟨fun h => (by rw [h] at hr; cases hr), fun j hj => ?_⟩
    have hjn : j < n := by
      rcases Nat.lt_or_ge j n with h | h
      · exact h
      · exact absurd hj (direct_waits hd hin hun j h)
    refine ⟨hjn, ?_⟩
    by_cases hji : j = i
    · subst hji; exact hy.wpOp hi hS ⟨hS, hT⟩
    · have := hdone _ _ _ hT j (ready_mono hj hji)
      omega
  | succ f ih =>
    intro listed a w hfree hr hy hS hT
    have hun := (mem_ready.1 hr).1
    refine ⟨fun h => (by rw [h] at hr; cases hr), fun j hj => ?_⟩
    have hjn : j < n := by
      rcases Nat.lt_or_ge j n with h | h
      · exact h
      · exact absurd hj (direct_waits hd hin hun j h)
    refine ⟨hjn, ?_⟩
    by_cases hji : j = i
    · subst hji; exact hy.wpOp hi hS ⟨hS, hT⟩
    · have h1 := (hT.2 j (ready_mono hj hji)).2
      obtain ⟨hjun, oj, hoj, hall⟩ := mem_ready.1 hj
      have hnot : ∀ e ∈ oj.after, Region.binds .any e = true → e.on ≠ i := fun e he hb heq => by
        have h3 := hall e he hb
        rw [heq, getD_both hun] at h3
        cases h3
      have h2 := wpOp_putIf hoj (hfree j oj hoj hji hjun hnot) (fun cs b => hsel i oi cs b hi) (fun cs b => hsel j oj cs b hoj) hQ hy h1
      have hfree' : ∀ k ok, ops[k]? = some ok → k ≠ i → (listed.setIfInBounds j true).getD k true = false →
          (∀ e ∈ ok.after, Region.binds .any e = true → e.on ≠ i) → oi.apart ops ok = true := fun k ok hk hki hu hno => by
        refine hfree k ok hk hki ?_ hno
        by_cases hjk : j = k
        · subst hjk; exact hjun
        · rw [getD_set_ne true hjk] at hu; exact hu
      refine wpOp_mono (fun a' w' h3 => ⟨h3.2.1, ih (listed.setIfInBounds j true) a' w' hfree' (ready_mono hr (Ne.symm hji)) h3.1 h3.2.1 ?_⟩) h2
      rw [Array.setIfInBounds_comm _ _ hji]
      exact h3.2.2
theorem tail_take (i : Nat) {n g : Nat} {oi : Oper} {v : Value} {f : Nat} {listed : Array Bool} {a : Act} {w : World} (hi : ops[i]? = some oi) (hs : Region.noSelect ops = true)
    (hb : (directB ops n && decide (i < n)) = true)
    (hf : Region.free .any ops listed i = true) (hr : (Region.ready .any ops listed).contains i = true)
    (hQ : ∀ c a w, Q (.panic c) (a.put oi.dst v) w → Q (.panic c) a w) (hw : Region.wanted oi (yielded ops a.tmps) = true)
    (hy : ∀ W, S W → (execOp a.eval oi).run P W = .ok (.value v) W) (hS : S w)
    (h : wpHeadH P .any ops Q S n (TailT P ops Q n g) f (listed.setIfInBounds i true) (a.put oi.dst v) w) : wpHeadH P .any ops Q S n (TailT P ops Q n g) (f + 1) listed a w := by
  simp only [Bool.and_eq_true, decide_eq_true_eq] at hb
  obtain ⟨b1, b4⟩ := hb
  exact wpHeadD_first hi (Region.noSelect_spec hs) b1 b4 hQ (fun l a w hT j hj => hT.1 j hj) f listed a w (Region.free_spec hi hf) (by simpa using hr) (Or.inl ⟨hw, hy⟩) hS h
theorem tail_call (i : Nat) {n g : Nat} {o : Oper} {f : Nat} {listed : Array Bool} {a : Act} {w : World} (hr : Region.ready .any ops listed = [i]) (hik : decide (i < n) = true) (ho : ops[i]? = some o) (hw : Region.wanted o (yielded ops a.tmps) = true)
    (h : ∀ K' : Act → World → Prop, Hid (∀ a W, S W → wpHeadH P .any ops Q S n (TailT P ops Q n g) f (listed.setIfInBounds i true) a W → K' a W) → Oper.wp P o a w K' Q) : wpHeadH P .any ops Q S n (TailT P ops Q n g) (f + 1) listed a w := by
  refine ⟨by rw [hr]; simp, fun j hj => ?_⟩
  rw [hr] at hj
  obtain rfl : j = i := by simpa using hj
  refine ⟨by simpa using hik, wpOp_step ho (fun K' hK => ?_)⟩
  rw [if_pos hw]
  exact h K' (Lib.hid fun a W hG hW => hK a W ⟨hG, hW⟩)
/-- Two operations are ready. -/
theorem tail_both (i j : Nat) {n g : Nat} {oi oj : Oper} {f : Nat} {listed : Array Bool} {a : Act} {w : World} (hr : Region.ready .any ops listed = [i, j]) (hin : (decide (i < n) && decide (j < n)) = true) (hoi : ops[i]? = some oi) (hoj : ops[j]? = some oj)
    (hwi : Region.wanted oi (yielded ops a.tmps) = true) (hwj : Region.wanted oj (yielded ops a.tmps) = true)
    (hi : ∀ K' : Act → World → Prop, Hid (∀ a W, S W → wpHeadH P .any ops Q S n (TailT P ops Q n g) f (listed.setIfInBounds i true) a W → K' a W) → Oper.wp P oi a w K' Q)
    (hj : ∀ K' : Act → World → Prop, Hid (∀ a W, S W → wpHeadH P .any ops Q S n (TailT P ops Q n g) f (listed.setIfInBounds j true) a W → K' a W) → Oper.wp P oj a w K' Q) : wpHeadH P .any ops Q S n (TailT P ops Q n g) (f + 1) listed a w := by
  simp only [Bool.and_eq_true, decide_eq_true_eq] at hin
  refine ⟨by rw [hr]; simp, fun m hm => ?_⟩
  rw [hr] at hm
  simp only [List.mem_cons, List.not_mem_nil, or_false] at hm
  rcases hm with rfl | rfl
  · refine ⟨hin.1, wpOp_step hoi (fun K' hK => ?_)⟩
    rw [if_pos hwi]
    exact hi K' (Lib.hid fun a W hG hW => hK a W ⟨hG, hW⟩)
  · refine ⟨hin.2, wpOp_step hoj (fun K' hK => ?_)⟩
    rw [if_pos hwj]
    exact hj K' (Lib.hid fun a W hG hW => hK a W ⟨hG, hW⟩)
theorem tail_norm {n g f : Nat} {listed : Array Bool} {a a' : Act} {w : World} (ha : a = a') (h : wpHeadH P .any ops Q S n (TailT P ops Q n g) f listed a' w) : wpHeadH P .any ops Q S n (TailT P ops Q n g) f listed a w := ha ▸ h
theorem tail_done {n g : Nat} {listed : Array Bool} {a : Act} {w : World} (hr : ((Region.ready .any ops listed).all fun j => decide (n ≤ j)) = true) (h : wpAny P .any ops Q g listed a w) : wpHeadH P .any ops Q S n (TailT P ops Q n g) 0 listed a w := by
  refine ⟨fun j hj => ?_, h⟩
  have := List.all_eq_true.1 hr j hj
  exact of_decide_eq_true this
end
end Go.Proofs.YtpcbnmpfiepaeaaDoor

/- Layer 20: two filters put together. Condition: rows that lie in memory that is there; few values. -/
namespace Go.Proofs.YtpcbnmpfiepaeaaDoor
open Go.RowKit
attribute [local go_sem] more_cell more_frozen more_more more_setCell more_of_drew more_of_drewN lt_more le_more past_cell past_cell2 past_frozen past_frozen2 past_setCell past_setCell2 mid_cell mid_frozen mid_setCell
attribute [local go_sem ↓] Go.wp_at_zero Go.wp_at_succ

def unF (f h : Sf) : Sf := ⟨unionW f.ws h.ws, f.k, uniJ f.ss h.ss h.ss.length, f.seed, f.cnt + h.cnt⟩
def UnSf (w : World) (f : Sf) (en : Ending) (w' : World) : Prop := ∃ g c A cA, en = .returned (.tuple #[.agg (sfC f g c A cA).toArray, .int .i64 0]) ∧ Grew w w' ∧ URow w' (some ⟨g, 0, none⟩) f.ws ∧ Row w' A (flatS f.ss)
end Go.Proofs.YtpcbnmpfiepaeaaDoor

/- rows.copied of values, and rows.Join. Condition: no more than a million values in all. -/
namespace Go.Proofs.YtpcbnmpfiepaeaaDoor
open Go.RowKit
attribute [local go_sem] more_cell more_frozen more_more more_setCell more_of_drew more_of_drewN lt_more le_more past_cell past_cell2 past_frozen past_frozen2 past_setCell past_setCell2 mid_cell mid_frozen mid_setCell
attribute [local go_sem ↓] Go.wp_at_zero Go.wp_at_succ

/-- One of several rows: where it lies, how far it may grow, its values. -/
structure VPart where
  A : Option Addr
  k : Nat
  m : List Vl
instance vpart_some : Inhabited VPart := ⟨⟨none, 0, []⟩⟩
def vpartV (p : VPart) : Value := .slice p.A p.m.length p.k
def allV (ps : List VPart) : List Vl := (ps.map VPart.m).flatten
theorem allV_take {ps : List VPart} {j : Nat} (h : j < ps.length) : allV (ps.take (j + 1)) = allV (ps.take j) ++ ps[j].m := by
  unfold allV
  rw [List.take_succ_eq_append_getElem h, List.map_append, List.flatten_append]
  simp
theorem allV_le (ps : List VPart) (j : Nat) : (allV (ps.take j)).length ≤ (allV ps).length := by
  have : allV ps = allV (ps.take j) ++ allV (ps.drop j) := by
    unfold allV
    rw [← List.flatten_append, ← List.map_append, List.take_append_drop]
  rw [this, List.length_append]
  omega
def CvAt (ps : List VPart) (n i : Value) : Prop := ∃ j m : Nat, j ≤ ps.length ∧ i = .int .i64 j ∧ n = .int .i64 m ∧ m = (allV (ps.take j)).length
def CvAt2 (w : World) (ps : List VPart) (N : Nat) (g : Nat) (at_ i : Value) (wr : World) : Prop :=
  ∃ j m : Nat, j ≤ ps.length ∧ i = .int .i64 j ∧ at_ = .int .i64 m ∧ m = (allV (ps.take j)).length ∧ Below w.heap.size w wr ∧ wr.heap[g]? = some (.cells (flatV (allV (ps.take j)) ++ flatV (List.replicate (N - m) nulV)).toArray 46 (0, 0))
/-- A row of values of its own is handed back. -/
def ValsF (w : World) (m : List Vl) (en : Ending) (w' : World) : Prop := ∃ A k, en = .returned (.slice A m.length k) ∧ Grew w w' ∧ w'.ownsRow w.heap.size 46 3 (.slice A m.length k) m.length (flatV m)
/-- A whole block of values is one's own. -/
theorem own_whole {w : World} {g base n : Nat} {m : List Vl} (hn : m.length = n) (h : w.heap[g]? = some (.cells (flatV m).toArray 46 (0, 0))) (hb : base ≤ g) (hl : n ≤ 1000000) : w.ownsRow base 46 3 (.slice (some ⟨g, 0, none⟩) n n) n (flatV m) :=
  ⟨by rw [flatV_len, hn], Or.inr ⟨g, n, _, rfl, hb, h, Nat.le_refl _, by unfold maxLen; omega, by simp [flatV_len, hn], by
    show (flatV m).take (n * 3) = flatV m
    rw [List.take_of_length_le (by rw [flatV_len, hn]; exact Nat.le_refl _)]⟩⟩
theorem own_vals {w : World} {base n c : Nat} {A : Option Addr} {m : List Vl} (h : w.ownsRow base 46 3 (.slice A n c) n (flatV m)) : VlsR (PRow w) A m := vlsR_flat (own_rowV h)
end Go.Proofs.YtpcbnmpfiepaeaaDoor

/- rows.Nulls. No condition. -/
namespace Go.Proofs.YtpcbnmpfiepaeaaDoor
open Go.RowKit
attribute [local go_sem] more_cell more_frozen more_more more_setCell more_of_drew more_of_drewN lt_more le_more past_cell past_cell2 past_frozen past_frozen2 past_setCell past_setCell2 mid_cell mid_frozen mid_setCell
attribute [local go_sem ↓] Go.wp_at_zero Go.wp_at_succ

def NuAt (w : World) (m : Nat) (g : Nat) (i : Value) (wr : World) : Prop :=
  ∃ j : Nat, j ≤ m ∧ i = .int .i64 j ∧ Below w.heap.size w wr ∧ Blok wr g 46 (flatV (List.replicate m nulV)).toArray
theorem rep_at {m j : Nat} (h : j < m) : ∀ c v, (vcL nulV)[c]? = some v → (flatV (List.replicate m nulV)).toArray[j * 3 + c]? = some v := by
  intro c v hc
  have e : flatV (List.replicate m nulV) = flatV (List.replicate j nulV) ++ (vcL nulV ++ flatV (List.replicate (m - j - 1) nulV)) := by
    have e1 : vcL nulV = flatV [nulV] := by simp [flatV]
    rw [e1, ← flatV_app, ← flatV_app]
    congr 1
    rw [show [nulV] = List.replicate 1 nulV from rfl, List.replicate_append_replicate, List.replicate_append_replicate]
    congr 1
    omega
  have hcl : c < 3 := by
    rcases Nat.lt_or_ge c 3 with h | h
    · exact h
    · rw [List.getElem?_eq_none (show (vcL nulV).length ≤ c from h)] at hc
      cases hc
  have hl : (flatV (List.replicate j nulV)).length = j * 3 := by rw [flatV_len, List.length_replicate]
  rw [List.getElem?_toArray, e, List.getElem?_append_right (by omega), hl, Nat.add_sub_cancel_left, List.getElem?_append_left (by show c < 3; exact hcl)]
  exact hc
theorem set_same {cs : Array Value} {i : Nat} {v : Value} (h : cs[i]? = some v) : cs.setIfInBounds i v = cs := by
  apply Array.ext_getElem?
  intro j
  rw [Array.getElem?_setIfInBounds]
  by_cases hj : i = j
  · subst hj
    have hl : i < cs.size := by
      rcases Nat.lt_or_ge i cs.size with h1 | h1
      · exact h1
      · rw [Array.getElem?_eq_none h1] at h; cases h
    rw [if_pos rfl, if_pos hl, h]
  · rw [if_neg hj]
end Go.Proofs.YtpcbnmpfiepaeaaDoor

/- Some values of a row: rows.Pick, and the document's. Condition: no more than a million places. -/
namespace Go.Proofs.YtpcbnmpfiepaeaaDoor
open Go.RowKit
attribute [local go_sem] more_cell more_frozen more_more more_setCell more_of_drew more_of_drewN lt_more le_more past_cell past_cell2 past_frozen past_frozen2 past_setCell past_setCell2 mid_cell mid_frozen mid_setCell
attribute [local go_sem ↓] Go.wp_at_zero Go.wp_at_succ

/-- The value at a place, null where there is none. -/
def pickV (r : List Vl) (p : Int) : Vl := if 0 ≤ p ∧ p < r.length then r.getD p.toNat nulV else nulV
def pickL (r : List Vl) (ps : List Int) : List Vl := ps.map (pickV r)
theorem pickL_len (r : List Vl) (ps : List Int) : (pickL r ps).length = ps.length := by simp [pickL]
theorem pickL_snoc {r : List Vl} {ps : List Int} {j : Nat} (h : j < ps.length) : pickL r (ps.take (j + 1)) = pickL r (ps.take j) ++ [pickV r ps[j]] := by
  unfold pickL
  rw [List.take_succ_eq_append_getElem h, List.map_append]
  rfl
theorem pickV_in {r : List Vl} {p : Nat} (h : p < r.length) : pickV r p = r[p] := by
  unfold pickV
  rw [if_pos ⟨by omega, by omega⟩, Int.toNat_natCast, List.getD_eq_getElem?_getD, List.getElem?_eq_getElem h]
  rfl
theorem pickV_out {r : List Vl} {p : Int} (h : ¬ (0 ≤ p ∧ p < r.length)) : pickV r p = nulV := if_neg h
theorem own_thus {w w' : World} {base : Nat} {e : TypeId} {size n : Nat} {v : Value} {xs : List Value} (h : w.ownsRow base e size v n xs) (g : Grew w w') : w'.ownsRow base e size v n xs := by
  obtain ⟨x, rfl⟩ := g
  exact own_more h x
def PkAt (w : World) (r : List Vl) (ps : List Int) (v i : Value) (wr : World) : Prop :=
  ∃ (j : Nat) (A : Option Addr) (c : Nat), j ≤ ps.length ∧ i = .int .i64 j ∧ v = .slice A j c ∧ Grew w wr ∧ wr.ownsRow w.heap.size 46 3 (.slice A j c) j (flatV (pickL r (ps.take j)))
end Go.Proofs.YtpcbnmpfiepaeaaDoor

/- Layer 20: new filters; which keys pass; the page's example. Condition: rows that lie in memory that is there; keys that are not much; the library's table of powers. -/
namespace Go.Proofs.YtpcbnmpfiepaeaaDoor
open Go.RowKit
attribute [local go_sem] more_cell more_frozen more_more more_setCell more_of_drew more_of_drewN lt_more le_more past_cell past_cell2 past_frozen past_frozen2 past_setCell past_setCell2 mid_cell mid_frozen mid_setCell
attribute [local go_sem ↓] Go.wp_at_zero Go.wp_at_succ

/-- A new filter. -/
def newF (seed words bits : Int) : Sf := ⟨List.replicate (clampN words 4096) 0, clampN bits 5, [], seed, 0⟩
set_option maxHeartbeats 1000000 in
theorem snew_any (seed words bits : Int) (w : World) : Calls Tryd.prog 7 #[.int .i64 seed, .int .i64 words, .int .i64 bits] w (SfF w (newF seed words bits)) := by
  obtain ⟨u0, hu0⟩ : ∃ u0, w.alloc (.cells #[.slice none 0 0, .int .i64 0, .slice none 0 0, .int .i64 0, .int .i64 0] 32) = u0 := ⟨_, rfl⟩
  obtain ⟨gB, hgB⟩ : ∃ gB, w.heap.size = gB := ⟨_, rfl⟩
  have HgE := Lib.hid hgB
  have HgB : Hid (w.heap.size ≤ gB) := Lib.hid (Nat.le_of_eq hgB)
  have HB0 : Hid (Blok u0 gB 32 #[.slice none 0 0, .int .i64 0, .slice none 0 0, .int .i64 0, .int .i64 0]) := Lib.hid (by rw [← hu0, ← hgB]; exact Blok.new _ _ _ _ rfl)
  have HGu : Hid (Grew w u0) := Lib.hid (by rw [← hu0]; exact (Grew.refl w).alloc _)
  have Hu0 := Lib.hid hu0
  have HN := Lib.hid (bnew_any words bits u0)
  have hl : (List.replicate (clampN words 4096) 0).length = clampN words 4096 := List.length_replicate
  have hpos := (clamp_le words 4096 (by decide)).2
  clear hu0 hgB
  go_enter Tryd.func7, Tryd.ntmps7
  go_wp2_with fail
  rw [Hu0.out, HgE.out]
  clear HgE
  refine HN.out.mono ?_
  rintro e w1 ⟨g, c, rfl, hg1, hur⟩
  rw [hl]
  have HG1 := Lib.hid (HGu.out.trans hg1)
  have hb1 := HB0.out.grew hg1
  have c0 : w1.cell? ⟨g, 0, none⟩ = some (.int .u64 0) := by
    have := row_cells hur 0 (.int .u64 0) (by rw [List.getElem?_map, List.getElem?_replicate, if_pos (by omega)]; rfl)
    simpa using this
  have hgn : g ≠ gB := by
    intro e
    subst e
    have := hb1.cell 0
    rw [c0] at this
    simp at this
  obtain ⟨n, hn⟩ : ∃ n, clampN words 4096 = n := ⟨_, rfl⟩
  have HP : Hid (∀ W, Grew w W → URow W (some ⟨g, 0, none⟩) (List.replicate (clampN words 4096) 0) → SfF w (newF seed words bits) (.returned (.agg #[.slice (some ⟨g, 0, none⟩) n c, .int .i64 (clampN bits 5 : Nat), .slice none 0 0, .int .i64 seed, .int .i64 0])) W) := Lib.hid fun W h1 h2 => ⟨g, c, none, 0, by rw [← hn]; unfold sfC newF; rw [hl]; rfl, h1, h2, Or.inl rfl⟩
  have HUR := Lib.hid hur
  have HB1 := Lib.hid hb1
  have m0 := hb1.cell 0
  have m1 := hb1.cell 1
  have m2 := hb1.cell 2
  have m3 := hb1.cell 3
  have m4 := hb1.cell 4
  simp at m0 m1 m2 m3 m4
  have x0 := hb1.thaw 0
  have x1 := hb1.thaw 1
  have x2 := hb1.thaw 2
  have x3 := hb1.thaw 3
  have x4 := hb1.thaw 4
  have hbl := hb1.lt
  have HGn := Lib.hid hgn
  rw [hn]
  clear hur hb1 hg1 c0 hgn hn hl hpos HB0 Hu0 HN
  obtain ⟨kk, hkk⟩ : ∃ kk, clampN bits 5 = kk := ⟨_, rfl⟩
  rw [hkk] at HP ⊢
  clear hkk
  have hU7 : URow (((((w1.setCell ⟨gB, 0, none⟩ (.slice (some ⟨g, 0, none⟩) n c)).setCell ⟨gB, 1, none⟩ (.int .i64 kk)).setCell ⟨gB, 2, none⟩ (.slice none 0 0)).setCell ⟨gB, 3, none⟩ (.int .i64 seed)).setCell ⟨gB, 4, none⟩ (.int .i64 0)) (some ⟨g, 0, none⟩) (List.replicate (clampN words 4096) 0) := by
    have f0 : ∀ {w' : World} {p : Nat} {v : Value}, URow w' (some ⟨g, 0, none⟩) (List.replicate (clampN words 4096) 0) → URow (w'.setCell ⟨gB, p, none⟩ v) (some ⟨g, 0, none⟩) (List.replicate (clampN words 4096) 0) := fun h => Row.turns h ((Turns.refl _ _).set _ _) (fun a ha => by injection ha with ha; subst ha; exact HGn.out)
    exact f0 (f0 (f0 (f0 (f0 HUR.out))))
  have hG7 : Grew w (((((w1.setCell ⟨gB, 0, none⟩ (.slice (some ⟨g, 0, none⟩) n c)).setCell ⟨gB, 1, none⟩ (.int .i64 kk)).setCell ⟨gB, 2, none⟩ (.slice none 0 0)).setCell ⟨gB, 3, none⟩ (.int .i64 seed)).setCell ⟨gB, 4, none⟩ (.int .i64 0)) := Grew.setCell (Grew.setCell (Grew.setCell (Grew.setCell (Grew.setCell HG1.out HgB.out _) HgB.out _) HgB.out _) HgB.out _) HgB.out _
  have hB7 := Lib.hid (((((HB1.out.set 0 (.slice (some ⟨g, 0, none⟩) n c)).set 1 (.int .i64 kk)).set 2 (.slice none 0 0)).set 3 (.int .i64 seed)).set 4 (.int .i64 0))
  have HPost := Lib.hid (HP.out _ hG7 hU7)
  clear hU7 hG7 HP HUR HB1 HGn HgB HG1 HGu
  go_wp2
  have r0 := hB7.out.cell 0
  have r1 := hB7.out.cell 1
  have r2 := hB7.out.cell 2
  have r3 := hB7.out.cell 3
  have r4 := hB7.out.cell 4
  simp at r0 r1 r2 r3 r4
  exact bodyPost_ret (v := .agg #[.slice (some ⟨g, 0, none⟩) n c, .int .i64 kk, .slice none 0 0, .int .i64 seed, .int .i64 0]) (by simp [results, Tryd.results7, go_sem, r0, r1, r2, r3, r4]) rfl HPost.out
theorem scount_any (A B : Option Addr) (n c m d : Nat) (k seed cnt : Int) (w : World) : Gives Tryd.prog 11 #[.agg #[.slice A n c, .int .i64 k, .slice B m d, .int .i64 seed, .int .i64 cnt]] w (.int .i64 cnt) := by
  unfold Gives
  go_enter Tryd.func11, Tryd.ntmps11
  go_wp2
  go_ret
  exact ⟨rfl, by (show Grew _ _; repeat (first | exact Grew.refl _ | refine Grew.alloc ?_ _ | refine Grew.drew ?_ | refine Grew.more ?_ _))⟩
set_option maxHeartbeats 4000000 in
set_option maxRecDepth 100000 in
theorem passes_gen (Xa : Option Addr) (Xn Xc : Nat) (k seed cnt : Int) (ss : List S) (key : List Vl) (S0 A : Option Addr) (cS kA : Nat) (tH : Bool) (hl : key.length ≤ 1000) (hz : ∀ v ∈ key, v.s.size ≤ 3000) (hk : (keyRowL key).length ≤ 1000000) (w : World) (rs : Row w S0 (flatS ss)) (ra : VlsR (PRow w) A key) (htab : Lib.TabIs Tryd.prog w "internal/strconv.uint64pow10" .u64 Lib.pow10Tab)
    (hH : ∀ W, Grew w W → Gives Tryd.prog 28 #[.agg #[.slice Xa Xn Xc, .int .i64 k], .int .u64 (hashN seed key : Nat)] W (.bool tH)) :
    Gives Tryd.prog 9 #[.agg #[.slice Xa Xn Xc, .int .i64 k, .slice S0 ss.length cS, .int .i64 seed, .int .i64 cnt], .slice A key.length kA] w (.bool (wholeV key && (haveS ss key && tH))) := by
  obtain ⟨u0, hu0⟩ : ∃ u0, w.alloc (.cells #[.slice Xa Xn Xc, .int .i64 k, .slice S0 ss.length cS, .int .i64 seed, .int .i64 cnt] 32) = u0 := ⟨_, rfl⟩
  have HB0 : Hid (Blok u0 w.heap.size 32 #[.slice Xa Xn Xc, .int .i64 k, .slice S0 ss.length cS, .int .i64 seed, .int .i64 cnt]) := Lib.hid (by rw [← hu0]; exact Blok.new _ _ _ _ rfl)
  have HGu : Hid (Grew w u0) := Lib.hid (by rw [← hu0]; exact (Grew.refl w).alloc _)
  have Hu0 := Lib.hid hu0
  have HW : Hid (∀ W, Grew u0 W → Gives Tryd.prog 14 #[.slice A key.length kA] W (.bool (wholeV key))) := Lib.hid fun W hW => whole_any key (by omega) A kA W (ra.grew (HGu.out.trans hW))
  have HHv : Hid (∀ W, Grew u0 W → Gives Tryd.prog 27 #[.slice S0 ss.length cS, .slice A key.length kA] W (.bool (haveS ss key))) := Lib.hid fun W hW => have_any ss key (by omega) S0 A cS kA W (rs.grew (HGu.out.trans hW)) (ra.grew (HGu.out.trans hW))
  have HR : Hid (∀ W, Grew u0 W → Gives Tryd.prog 19 #[.int .i64 seed, .slice A key.length kA] W (.int .u64 (hashN seed key : Nat))) := Lib.hid fun W hW => by
    rw [(hashN_is seed key).1]
    exact row17_any seed key hl hz hk A kA W (ra.grew (HGu.out.trans hW)) (tab_grew htab (HGu.out.trans hW))
  have HH : Hid (∀ W, Grew u0 W → Gives Tryd.prog 28 #[.agg #[.slice Xa Xn Xc, .int .i64 k], .int .u64 (hashN seed key : Nat)] W (.bool tH)) := Lib.hid fun W hW => hH W (HGu.out.trans hW)
  obtain ⟨gB, hgB⟩ : ∃ gB, w.heap.size = gB := ⟨_, rfl⟩
  have HgB := Lib.hid hgB
  rw [hgB] at HB0
  have HCs : Hid (∀ W, Grew u0 W → gB < W.heap.size ∧ W.cell? ⟨gB, 0, none⟩ = some (.slice Xa Xn Xc) ∧ W.cell? ⟨gB, 1, none⟩ = some (.int .i64 k) ∧ W.cell? ⟨gB, 2, none⟩ = some (.slice S0 ss.length cS) ∧ W.cell? ⟨gB, 3, none⟩ = some (.int .i64 seed)) := Lib.hid fun W hW => ⟨(HB0.out.grew hW).lt, (HB0.out.grew hW).cell 0, (HB0.out.grew hW).cell 1, (HB0.out.grew hW).cell 2, (HB0.out.grew hW).cell 3⟩
  clear hu0 hgB rs ra htab hH hz hk
  generalize hashN seed key = hh at *
  generalize wholeV key = tw at *
  generalize haveS ss key = th at *
  unfold Gives
  go_enter Tryd.func9, Tryd.ntmps9
  go_upto_region 1 with fail
  rw [Hu0.out, HgB.out]
  clear Hu0 HgB
  cases tw
  · skip
    refine wp_region_S (fun W => Grew u0 W) (by kernel_rfl) ?_
    refine held_take 0 (v := ?_) rfl (by kernel_rfl) (by kernel_rfl) (by kernel_rfl) (fun _ _ _ h => h) (by rfl) ?_ (Grew.refl u0).drew ?_
    rotate_left
    · (intro W hW; go_simp; with_reducible rfl)
    refine held_norm (a' := ?_) ?_ ?_
    rotate_left
    · (go_simp; with_reducible rfl)
    refine held_call 1 (by kernel_rfl) rfl (by rfl) (fun K hK => ?_)
    go_simp
    go_wp2_with (go_at_call 14; (with_reducible refine (HW.out _ (Grew.refl u0).drew).grows.mono ?_); rintro e w2 ⟨rfl, hg2⟩; have HG2 := Lib.hid (show Grew u0 w2 from ((Grew.refl u0).drew).trans hg2); clear hg2)
    refine hK.out _ _ HG2.out ?_
    clear hK K
    refine held_take 2 (v := ?_) rfl (by kernel_rfl) (by kernel_rfl) (by kernel_rfl) (fun _ _ _ h => h) (by rfl) ?_ HG2.out ?_
    rotate_left
    · (intro W hW; go_simp; with_reducible rfl)
    refine held_norm (a' := ?_) ?_ ?_
    rotate_left
    · (go_simp; with_reducible rfl)
    refine held_skip 3 rfl (by kernel_rfl) (by kernel_rfl) (by kernel_rfl) (fun _ _ _ h => h) (by rfl) HG2.out ?_
    refine held_norm (a' := ?_) ?_ ?_
    rotate_left
    · (go_simp; with_reducible rfl)
    refine held_skip 4 rfl (by kernel_rfl) (by kernel_rfl) (by kernel_rfl) (fun _ _ _ h => h) (by rfl) HG2.out ?_
    refine held_norm (a' := ?_) ?_ ?_
    rotate_left
    · (go_simp; with_reducible rfl)
    refine held_skip 5 rfl (by kernel_rfl) (by kernel_rfl) (by kernel_rfl) (fun _ _ _ h => h) (by rfl) HG2.out ?_
    refine held_norm (a' := ?_) ?_ ?_
    rotate_left
    · (go_simp; with_reducible rfl)
    refine held_skip 6 rfl (by kernel_rfl) (by kernel_rfl) (by kernel_rfl) (fun _ _ _ h => h) (by rfl) HG2.out ?_
    refine held_norm (a' := ?_) ?_ ?_
    rotate_left
    · (go_simp; with_reducible rfl)
    refine held_take 7 (v := ?_) rfl (by kernel_rfl) (by kernel_rfl) (by kernel_rfl) (fun _ _ _ h => h) (by rfl) ?_ HG2.out ?_
    rotate_left
    · (intro W hW; go_simp; with_reducible rfl)
    refine held_take 8 (v := ?_) rfl (by kernel_rfl) (by kernel_rfl) (by kernel_rfl) (fun _ _ _ h => h) (by rfl) ?_ HG2.out ?_
    rotate_left
    · (intro W hW; go_simp; with_reducible rfl)
    refine held_norm (a' := ?_) ?_ ?_
    rotate_left
    · (go_simp; with_reducible rfl)
    refine held_skip 9 rfl (by kernel_rfl) (by kernel_rfl) (by kernel_rfl) (fun _ _ _ h => h) (by rfl) HG2.out ?_
    refine held_norm (a' := ?_) ?_ ?_
    rotate_left
    · (go_simp; with_reducible rfl)
    refine held_skip 10 rfl (by kernel_rfl) (by kernel_rfl) (by kernel_rfl) (fun _ _ _ h => h) (by rfl) HG2.out ?_
    refine held_norm (a' := ?_) ?_ ?_
    rotate_left
    · (go_simp; with_reducible rfl)
    refine held_skip 11 rfl (by kernel_rfl) (by kernel_rfl) (by kernel_rfl) (fun _ _ _ h => h) (by rfl) HG2.out ?_
    refine held_norm (a' := ?_) ?_ ?_
    rotate_left
    · (go_simp; with_reducible rfl)
    refine held_skip 12 rfl (by kernel_rfl) (by kernel_rfl) (by kernel_rfl) (fun _ _ _ h => h) (by rfl) HG2.out ?_
    refine held_norm (a' := ?_) ?_ ?_
    rotate_left
    · (go_simp; with_reducible rfl)
    refine held_skip 13 rfl (by kernel_rfl) (by kernel_rfl) (by kernel_rfl) (fun _ _ _ h => h) (by rfl) HG2.out ?_
    refine held_norm (a' := ?_) ?_ ?_
    rotate_left
    · (go_simp; with_reducible rfl)
    refine held_skip 14 rfl (by kernel_rfl) (by kernel_rfl) (by kernel_rfl) (fun _ _ _ h => h) (by rfl) HG2.out ?_
    refine held_norm (a' := ?_) ?_ ?_
    rotate_left
    · (go_simp; with_reducible rfl)
    refine held_skip 15 rfl (by kernel_rfl) (by kernel_rfl) (by kernel_rfl) (fun _ _ _ h => h) (by rfl) HG2.out ?_
    refine held_norm (a' := ?_) ?_ ?_
    rotate_left
    · (go_simp; with_reducible rfl)
    refine held_take 16 (v := ?_) rfl (by kernel_rfl) (by kernel_rfl) (by kernel_rfl) (fun _ _ _ h => h) (by rfl) ?_ HG2.out ?_
    rotate_left
    · (intro W hW; go_simp; with_reducible rfl)
    refine held_take 17 (v := ?_) rfl (by kernel_rfl) (by kernel_rfl) (by kernel_rfl) (fun _ _ _ h => h) (by rfl) ?_ HG2.out ?_
    rotate_left
    · (intro W hW; go_simp; with_reducible rfl)
    refine held_norm (a' := ?_) ?_ ?_
    rotate_left
    · (go_simp; with_reducible rfl)
    refine held_done (by kernel_rfl) ?_
    go_wp2
    go_ret
    exact ⟨rfl, HGu.out.trans HG2.out⟩
  · cases th
    · skip
      refine wp_region_S (fun W => Grew u0 W) (by kernel_rfl) ?_
      refine held_take 0 (v := ?_) rfl (by kernel_rfl) (by kernel_rfl) (by kernel_rfl) (fun _ _ _ h => h) (by rfl) ?_ (Grew.refl u0).drew ?_
      rotate_left
      · (intro W hW; go_simp; with_reducible rfl)
      refine held_norm (a' := ?_) ?_ ?_
      rotate_left
      · (go_simp; with_reducible rfl)
      refine held_call 1 (by kernel_rfl) rfl (by rfl) (fun K hK => ?_)
      go_simp
      go_wp2_with (go_at_call 14; (with_reducible refine (HW.out _ (Grew.refl u0).drew).grows.mono ?_); rintro e w2 ⟨rfl, hg2⟩; have HG2 := Lib.hid (show Grew u0 w2 from ((Grew.refl u0).drew).trans hg2); clear hg2)
      refine hK.out _ _ HG2.out ?_
      clear hK K
      refine held_take 2 (v := ?_) rfl (by kernel_rfl) (by kernel_rfl) (by kernel_rfl) (fun _ _ _ h => h) (by rfl) ?_ HG2.out ?_
      rotate_left
      · (intro W hW; go_simp; with_reducible rfl)
      refine held_norm (a' := ?_) ?_ ?_
      rotate_left
      · (go_simp; with_reducible rfl)
      refine held_take 3 (v := ?_) rfl (by kernel_rfl) (by kernel_rfl) (by kernel_rfl) (fun _ _ _ h => h) (by rfl) ?_ HG2.out ?_
      rotate_left
      · (intro W hW; go_simp; with_reducible rfl)
      refine held_norm (a' := ?_) ?_ ?_
      rotate_left
      · (go_simp; with_reducible rfl)
      refine held_take 4 (v := ?_) rfl (by kernel_rfl) (by kernel_rfl) (by kernel_rfl) (fun _ _ _ h => h) (by rfl) ?_ HG2.out ?_
      rotate_left
      · (intro W hW; obtain ⟨hbl, _, _, c2, _⟩ := HCs.out W hW; go_simp; with_reducible rfl)
      refine held_norm (a' := ?_) ?_ ?_
      rotate_left
      · (go_simp; with_reducible rfl)
      refine held_take 5 (v := ?_) rfl (by kernel_rfl) (by kernel_rfl) (by kernel_rfl) (fun _ _ _ h => h) (by rfl) ?_ HG2.out ?_
      rotate_left
      · (intro W hW; go_simp; with_reducible rfl)
      refine held_norm (a' := ?_) ?_ ?_
      rotate_left
      · (go_simp; with_reducible rfl)
      refine held_call 6 (by kernel_rfl) rfl (by rfl) (fun K hK => ?_)
      go_simp
      go_wp2_with (go_at_call 27; (with_reducible refine (HHv.out _ HG2.out).grows.mono ?_); rintro e w3 ⟨rfl, hg3⟩; have HG3 := Lib.hid (HG2.out.trans hg3); clear hg3)
      refine hK.out _ _ HG3.out ?_
      clear hK K
      refine held_take 7 (v := ?_) rfl (by kernel_rfl) (by kernel_rfl) (by kernel_rfl) (fun _ _ _ h => h) (by rfl) ?_ HG3.out ?_
      rotate_left
      · (intro W hW; go_simp; with_reducible rfl)
      refine held_take 8 (v := ?_) rfl (by kernel_rfl) (by kernel_rfl) (by kernel_rfl) (fun _ _ _ h => h) (by rfl) ?_ HG3.out ?_
      rotate_left
      · (intro W hW; go_simp; with_reducible rfl)
      refine held_norm (a' := ?_) ?_ ?_
      rotate_left
      · (go_simp; with_reducible rfl)
      refine held_skip 9 rfl (by kernel_rfl) (by kernel_rfl) (by kernel_rfl) (fun _ _ _ h => h) (by rfl) HG3.out ?_
      refine held_norm (a' := ?_) ?_ ?_
      rotate_left
      · (go_simp; with_reducible rfl)
      refine held_skip 10 rfl (by kernel_rfl) (by kernel_rfl) (by kernel_rfl) (fun _ _ _ h => h) (by rfl) HG3.out ?_
      refine held_norm (a' := ?_) ?_ ?_
      rotate_left
      · (go_simp; with_reducible rfl)
      refine held_skip 11 rfl (by kernel_rfl) (by kernel_rfl) (by kernel_rfl) (fun _ _ _ h => h) (by rfl) HG3.out ?_
      refine held_norm (a' := ?_) ?_ ?_
      rotate_left
      · (go_simp; with_reducible rfl)
      refine held_skip 12 rfl (by kernel_rfl) (by kernel_rfl) (by kernel_rfl) (fun _ _ _ h => h) (by rfl) HG3.out ?_
      refine held_norm (a' := ?_) ?_ ?_
      rotate_left
      · (go_simp; with_reducible rfl)
      refine held_skip 13 rfl (by kernel_rfl) (by kernel_rfl) (by kernel_rfl) (fun _ _ _ h => h) (by rfl) HG3.out ?_
      refine held_norm (a' := ?_) ?_ ?_
      rotate_left
      · (go_simp; with_reducible rfl)
      refine held_skip 14 rfl (by kernel_rfl) (by kernel_rfl) (by kernel_rfl) (fun _ _ _ h => h) (by rfl) HG3.out ?_
      refine held_norm (a' := ?_) ?_ ?_
      rotate_left
      · (go_simp; with_reducible rfl)
      refine held_skip 15 rfl (by kernel_rfl) (by kernel_rfl) (by kernel_rfl) (fun _ _ _ h => h) (by rfl) HG3.out ?_
      refine held_norm (a' := ?_) ?_ ?_
      rotate_left
      · (go_simp; with_reducible rfl)
      refine held_take 16 (v := ?_) rfl (by kernel_rfl) (by kernel_rfl) (by kernel_rfl) (fun _ _ _ h => h) (by rfl) ?_ HG3.out ?_
      rotate_left
      · (intro W hW; go_simp; with_reducible rfl)
      refine held_take 17 (v := ?_) rfl (by kernel_rfl) (by kernel_rfl) (by kernel_rfl) (fun _ _ _ h => h) (by rfl) ?_ HG3.out ?_
      rotate_left
      · (intro W hW; go_simp; with_reducible rfl)
      refine held_norm (a' := ?_) ?_ ?_
      rotate_left
      · (go_simp; with_reducible rfl)
      refine held_done (by kernel_rfl) ?_
      go_wp2
      go_ret
      exact ⟨rfl, HGu.out.trans HG3.out⟩
    · skip
      refine wp_region_S (fun W => Grew u0 W) (by kernel_rfl) ?_
      refine held_take 0 (v := ?_) rfl (by kernel_rfl) (by kernel_rfl) (by kernel_rfl) (fun _ _ _ h => h) (by rfl) ?_ (Grew.refl u0).drew ?_
      rotate_left
      · (intro W hW; go_simp; with_reducible rfl)
      refine held_norm (a' := ?_) ?_ ?_
      rotate_left
      · (go_simp; with_reducible rfl)
      refine held_call 1 (by kernel_rfl) rfl (by rfl) (fun K hK => ?_)
      go_simp
      go_wp2_with (go_at_call 14; (with_reducible refine (HW.out _ (Grew.refl u0).drew).grows.mono ?_); rintro e w2 ⟨rfl, hg2⟩; have HG2 := Lib.hid (show Grew u0 w2 from ((Grew.refl u0).drew).trans hg2); clear hg2)
      refine hK.out _ _ HG2.out ?_
      clear hK K
      refine held_take 2 (v := ?_) rfl (by kernel_rfl) (by kernel_rfl) (by kernel_rfl) (fun _ _ _ h => h) (by rfl) ?_ HG2.out ?_
      rotate_left
      · (intro W hW; go_simp; with_reducible rfl)
      refine held_norm (a' := ?_) ?_ ?_
      rotate_left
      · (go_simp; with_reducible rfl)
      refine held_take 3 (v := ?_) rfl (by kernel_rfl) (by kernel_rfl) (by kernel_rfl) (fun _ _ _ h => h) (by rfl) ?_ HG2.out ?_
      rotate_left
      · (intro W hW; go_simp; with_reducible rfl)
      refine held_norm (a' := ?_) ?_ ?_
      rotate_left
      · (go_simp; with_reducible rfl)
      refine held_take 4 (v := ?_) rfl (by kernel_rfl) (by kernel_rfl) (by kernel_rfl) (fun _ _ _ h => h) (by rfl) ?_ HG2.out ?_
      rotate_left
      · (intro W hW; obtain ⟨hbl, _, _, c2, _⟩ := HCs.out W hW; go_simp; with_reducible rfl)
      refine held_norm (a' := ?_) ?_ ?_
      rotate_left
      · (go_simp; with_reducible rfl)
      refine held_take 5 (v := ?_) rfl (by kernel_rfl) (by kernel_rfl) (by kernel_rfl) (fun _ _ _ h => h) (by rfl) ?_ HG2.out ?_
      rotate_left
      · (intro W hW; go_simp; with_reducible rfl)
      refine held_norm (a' := ?_) ?_ ?_
      rotate_left
      · (go_simp; with_reducible rfl)
      refine held_call 6 (by kernel_rfl) rfl (by rfl) (fun K hK => ?_)
      go_simp
      go_wp2_with (go_at_call 27; (with_reducible refine (HHv.out _ HG2.out).grows.mono ?_); rintro e w3 ⟨rfl, hg3⟩; have HG3 := Lib.hid (HG2.out.trans hg3); clear hg3)
      refine hK.out _ _ HG3.out ?_
      clear hK K
      refine held_take 7 (v := ?_) rfl (by kernel_rfl) (by kernel_rfl) (by kernel_rfl) (fun _ _ _ h => h) (by rfl) ?_ HG3.out ?_
      rotate_left
      · (intro W hW; go_simp; with_reducible rfl)
      refine held_take 8 (v := ?_) rfl (by kernel_rfl) (by kernel_rfl) (by kernel_rfl) (fun _ _ _ h => h) (by rfl) ?_ HG3.out ?_
      rotate_left
      · (intro W hW; go_simp; with_reducible rfl)
      refine held_norm (a' := ?_) ?_ ?_
      rotate_left
      · (go_simp; with_reducible rfl)
      refine held_take 9 (v := ?_) rfl (by kernel_rfl) (by kernel_rfl) (by kernel_rfl) (fun _ _ _ h => h) (by rfl) ?_ HG3.out ?_
      rotate_left
      · (intro W hW; go_simp; with_reducible rfl)
      refine held_norm (a' := ?_) ?_ ?_
      rotate_left
      · (go_simp; with_reducible rfl)
      refine held_take 10 (v := ?_) rfl (by kernel_rfl) (by kernel_rfl) (by kernel_rfl) (fun _ _ _ h => h) (by rfl) ?_ HG3.out ?_
      rotate_left
      · (intro W hW; obtain ⟨hbl, c0, c1, _, _⟩ := HCs.out W hW; go_simp; with_reducible rfl)
      refine held_norm (a' := ?_) ?_ ?_
      rotate_left
      · (go_simp; with_reducible rfl)
      refine held_take 11 (v := ?_) rfl (by kernel_rfl) (by kernel_rfl) (by kernel_rfl) (fun _ _ _ h => h) (by rfl) ?_ HG3.out ?_
      rotate_left
      · (intro W hW; go_simp; with_reducible rfl)
      refine held_norm (a' := ?_) ?_ ?_
      rotate_left
      · (go_simp; with_reducible rfl)
      refine held_take 12 (v := ?_) rfl (by kernel_rfl) (by kernel_rfl) (by kernel_rfl) (fun _ _ _ h => h) (by rfl) ?_ HG3.out ?_
      rotate_left
      · (intro W hW; obtain ⟨hbl, _, _, _, c3⟩ := HCs.out W hW; go_simp; with_reducible rfl)
      refine held_norm (a' := ?_) ?_ ?_
      rotate_left
      · (go_simp; with_reducible rfl)
      refine held_take 13 (v := ?_) rfl (by kernel_rfl) (by kernel_rfl) (by kernel_rfl) (fun _ _ _ h => h) (by rfl) ?_ HG3.out ?_
      rotate_left
      · (intro W hW; go_simp; with_reducible rfl)
      refine held_norm (a' := ?_) ?_ ?_
      rotate_left
      · (go_simp; with_reducible rfl)
      refine held_call 14 (by kernel_rfl) rfl (by rfl) (fun K hK => ?_)
      go_simp
      go_wp2_with (go_at_call 19; (with_reducible refine (HR.out _ HG3.out).grows.mono ?_); rintro e w4 ⟨rfl, hg4⟩; have HG4 := Lib.hid (HG3.out.trans hg4); clear hg4)
      refine hK.out _ _ HG4.out ?_
      clear hK K
      refine held_call 15 (by kernel_rfl) rfl (by rfl) (fun K hK => ?_)
      go_simp
      go_wp2_with (go_at_call 28; (with_reducible refine (HH.out _ HG4.out).grows.mono ?_); rintro e w5 ⟨rfl, hg5⟩; have HG5 := Lib.hid (HG4.out.trans hg5); clear hg5)
      refine hK.out _ _ HG5.out ?_
      clear hK K
      refine held_take 16 (v := ?_) rfl (by kernel_rfl) (by kernel_rfl) (by kernel_rfl) (fun _ _ _ h => h) (by rfl) ?_ HG5.out ?_
      rotate_left
      · (intro W hW; go_simp; with_reducible rfl)
      refine held_take 17 (v := ?_) rfl (by kernel_rfl) (by kernel_rfl) (by kernel_rfl) (fun _ _ _ h => h) (by rfl) ?_ HG5.out ?_
      rotate_left
      · (intro W hW; go_simp; with_reducible rfl)
      refine held_norm (a' := ?_) ?_ ?_
      rotate_left
      · (go_simp; with_reducible rfl)
      refine held_done (by kernel_rfl) ?_
      go_wp2
      go_ret
      exact ⟨rfl, HGu.out.trans HG5.out⟩
theorem passes_zero (key : List Vl) (A : Option Addr) (kA : Nat) (hl : key.length ≤ 1000) (hz : ∀ v ∈ key, v.s.size ≤ 3000) (hk : (keyRowL key).length ≤ 1000000) (w : World) (ra : VlsR (PRow w) A key) (htab : Lib.TabIs Tryd.prog w "internal/strconv.uint64pow10" .u64 Lib.pow10Tab) :
    Gives Tryd.prog 9 #[.agg #[.slice none 0 0, .int .i64 0, .slice none 0 0, .int .i64 0, .int .i64 0], .slice A key.length kA] w (.bool false) := by
  have h := passes_gen none 0 0 0 0 0 [] key none A 0 kA false hl hz hk w (Or.inl rfl) ra htab (fun W _ => bhas_zero _ W)
  rwa [Bool.and_false, Bool.and_false] at h
end Go.Proofs.YtpcbnmpfiepaeaaDoor

/- Layer 20: the page's example. Condition: the library's table of powers. -/
namespace Go.Proofs.YtpcbnmpfiepaeaaDoor
open Go.RowKit
attribute [local go_sem] more_cell more_frozen more_more more_setCell more_of_drew more_of_drewN lt_more le_more past_cell past_cell2 past_frozen past_frozen2 past_setCell past_setCell2 mid_cell mid_frozen mid_setCell
attribute [local go_sem ↓] Go.wp_at_zero Go.wp_at_succ

theorem passes_any (f : Sf) (g c : Nat) (A0 : Option Addr) (cA : Nat) (key : List Vl) (A : Option Addr) (kA : Nat) (h0 : 0 < f.ws.length) (hwl : f.ws.length ≤ 1000000) (hk5 : f.k ≤ 5) (hwo : wordsOk f.ws) (hl : key.length ≤ 1000) (hz : ∀ v ∈ key, v.s.size ≤ 3000) (hk : (keyRowL key).length ≤ 1000000) (w : World) (hw : URow w (some ⟨g, 0, none⟩) f.ws) (hs : Row w A0 (flatS f.ss)) (ra : VlsR (PRow w) A key) (htab : Lib.TabIs Tryd.prog w "internal/strconv.uint64pow10" .u64 Lib.pow10Tab) :
    Gives Tryd.prog 9 #[.agg #[.slice (some ⟨g, 0, none⟩) f.ws.length c, .int .i64 f.k, .slice A0 f.ss.length cA, .int .i64 f.seed, .int .i64 f.cnt], .slice A key.length kA] w (.bool (wholeV key && (haveS f.ss key && hasN f.ws f.k (hashN f.seed key)))) :=
  passes_gen (some ⟨g, 0, none⟩) f.ws.length c f.k f.seed f.cnt f.ss key A0 A cA kA _ hl hz hk w hs ra htab fun W hW => bhas_to f.ws f.k _ f.ws.length g c rfl (hashN_is f.seed key).2 hk5 h0 hwl hwo _ rfl W (hw.grew hW)
def oneR : List Vl := [⟨1, 1, ⟨#[]⟩⟩]
def exF : Sf := addF (newF 4 1 2) [oneR]
theorem one_key : (keyRowL oneR).length ≤ 1000000 := by
  have h := keyRowL_tight oneR (by intro v hv; simp only [oneR, List.mem_cons, List.not_mem_nil, or_false] at hv; subst hv; decide)
  have e : szR oneR = 1 := rfl
  have e2 : oneR.length = 1 := rfl
  rw [e, e2] at h
  omega
theorem nul_key : (keyRowL [nulV]).length ≤ 1000000 := by
  have h := keyRowL_tight [nulV] (by intro v hv; simp only [List.mem_cons, List.not_mem_nil, or_false] at hv; subst hv; decide)
  have e : szR [nulV] = 1 := rfl
  have e2 : ([nulV] : List Vl).length = 1 := rfl
  rw [e, e2] at h
  omega
theorem rws_lone {w : World} {B A : Option Addr} {l : List Vl} {k : Nat} (h : Row w B [.slice A l.length k]) (hk : l.length ≤ k) (h2 : VlsR (PRow w) A l) : RwsR (PRow w) B [l] :=
  ⟨[[.slice A l.length k]], ⟨rfl, fun i x cs hi hd => by
    rcases i with _ | i
    · simp only [List.getElem?_cons_zero, Option.some.injEq] at hi hd
      subst hi hd
      exact ⟨⟨A, k, rfl, hk, h2⟩, rfl⟩
    · simp at hi⟩, by simpa [PRow] using h⟩
theorem numsK_one (seed : Int) (r : List Vl) (h : wholeV r = true) : numsK seed [r] = [hashN seed r] := by
  unfold numsK
  rw [List.filter_cons_of_pos h]
  rfl
attribute [local irreducible] hashN
theorem ex_new : (newF 4 1 2).ws = [0] := rfl
theorem ex_ws : exF.ws = addW (List.replicate 1 0) 2 [hashN 4 oneR] := by
  show addW (List.replicate 1 0) 2 (numsK 4 [oneR]) = _
  rw [numsK_one 4 oneR rfl]
theorem ex_ss : exF.ss = [addS zeroS [toV ⟨1, 1, ⟨#[]⟩⟩]] := rfl
theorem ex_cnt : exF.cnt = 1 := rfl
theorem ex_len : exF.ws.length = 1 := by rw [ex_ws, addW_len]; rfl
theorem ex_passes : (wholeV oneR && (haveS exF.ss oneR && hasN exF.ws exF.k (hashN exF.seed oneR))) = true := by
  have e1 : wholeV oneR = true := rfl
  have e2 : haveS exF.ss oneR = true := by
    rw [ex_ss]
    show (hasS (addS zeroS [toV ⟨1, 1, ⟨#[]⟩⟩]) (toV ⟨1, 1, ⟨#[]⟩⟩) && true) = true
    rw [hasS_mem _ _ (List.mem_singleton.2 rfl)]
    rfl
  have e3 : hasN exF.ws exF.k (hashN exF.seed oneR) = true := by
    rw [show exF.k = 2 from rfl, show exF.seed = 4 from rfl, ex_ws]
    exact has_added 1 2 (by decide) [hashN 4 oneR] (hashN 4 oneR) (List.mem_singleton.2 rfl)
  rw [e1, e2, e3]
  rfl
set_option maxHeartbeats 4000000 in
set_option maxRecDepth 100000 in
theorem live20_any (w : World) (htab : Lib.TabIs Tryd.prog w "internal/strconv.uint64pow10" .u64 Lib.pow10Tab) : Gives Tryd.prog 5 #[] w (.bool true) := by
  have hone : ∀ {W : World} {b : Nat}, Row W (some ⟨b, 0, none⟩) [.int .i64 1, .int .i64 1, .string ⟨#[]⟩] → VlsR (PRow W) (some ⟨b, 0, none⟩) oneR := fun h => vlsR_flat (by simpa [flatV, oneR, vcL] using h)
  have hnul : ∀ {W : World} {b : Nat}, Row W (some ⟨b, 0, none⟩) [.int .i64 0, .int .i64 0, .string ⟨#[]⟩] → VlsR (PRow W) (some ⟨b, 0, none⟩) [nulV] := fun h => vlsR_flat (by simpa [flatV, nulV, vcL] using h)
  obtain ⟨w1, hw1⟩ : ∃ w1, w.alloc (.cells #[.int .i64 1, .int .i64 1, .string ⟨#[]⟩] 46) = w1 := ⟨_, rfl⟩
  have HG1 : Hid (Grew w w1) := Lib.hid (by rw [← hw1]; exact (Grew.refl w).alloc _)
  have HR1 : Hid (Row w1 (some ⟨w.heap.size, 0, none⟩) [.int .i64 1, .int .i64 1, .string ⟨#[]⟩]) := Lib.hid (by rw [← hw1]; exact row_new w _ _ _ rfl)
  have Hw1 := Lib.hid hw1
  have HTab := Lib.hid htab
  have HNew := Lib.hid (snew_any 4 1 2 w1)
  clear hw1 htab
  unfold Gives
  go_enter Tryd.func5, Tryd.ntmps5
  go_wp2_with fail
  rw [Hw1.out]
  clear Hw1
  refine HNew.out.mono ?_
  rintro e w2 ⟨g, c, A0, cA, rfl, hg2, hu2, hs2⟩
  have HG2 := Lib.hid (HG1.out.trans hg2)
  have HU2 := Lib.hid hu2
  have HS2 := Lib.hid hs2
  have HR2 := Lib.hid (HR1.out.grew hg2)
  clear hg2 hu2 hs2 HG1 HR1 HNew
  obtain ⟨gW, hgW⟩ : ∃ gW, w.heap.size = gW := ⟨_, rfl⟩
  rw [hgW] at HR2 ⊢
  clear hgW
  have e0 : sfC (newF 4 1 2) g c A0 cA = [.slice (some ⟨g, 0, none⟩) 1 c, .int .i64 2, .slice A0 0 cA, .int .i64 4, .int .i64 0] := rfl
  rw [e0]
  have hadd : ∀ {W : World} {B : Option Addr} {cB : Nat}, Grew w2 W → RwsR (PRow W) B [oneR] → Calls Tryd.prog 6 #[.agg #[.slice (some ⟨g, 0, none⟩) 1 c, .int .i64 2, .slice A0 0 cA, .int .i64 4, .int .i64 0], .slice B 1 cB] W (SfF W exF) := fun {W B cB} hW h => sadd_any (newF 4 1 2) [oneR] g c A0 B cA cB 0 (by decide) (by decide) (by decide) (by decide) (by intro x hx; rw [ex_new] at hx; simp only [List.mem_cons, List.not_mem_nil, or_false] at hx; subst hx; decide) (by decide) (by intro s hs; cases hs) (by decide) (by decide) (by decide) ⟨by decide, by intro r hr; simp only [List.mem_cons, List.not_mem_nil, or_false] at hr; subst hr; exact ⟨by decide, by intro v hv; simp only [oneR, List.mem_cons, List.not_mem_nil, or_false] at hv; subst hv; decide, one_key⟩⟩ W (HU2.out.grew hW) (HS2.out.grew hW) h (tab_grew HTab.out (HG2.out.trans hW))
  obtain ⟨w3, hw3⟩ : ∃ w3, w2.alloc (.cells #[.slice (some ⟨gW, 0, none⟩) 1 1] 23) = w3 := ⟨_, rfl⟩
  have hg23 : Grew w2 w3 := by rw [← hw3]; exact (Grew.refl _).alloc _
  have HAd := Lib.hid (hadd (B := some ⟨w2.heap.size, 0, none⟩) (cB := 1) hg23 (rws_lone (k := 1) (by rw [← hw3]; exact row_new w2 _ _ _ rfl) (by decide) (hone (HR2.out.grew hg23))))
  have HG3 := Lib.hid (HG2.out.trans hg23)
  have HR3 := Lib.hid (HR2.out.grew hg23)
  have Hw3 := Lib.hid hw3
  clear hadd hg23 hw3 HU2 HS2 HG2 HR2 e0
  go_wp2_with fail
  rw [Hw3.out]
  clear Hw3
  refine HAd.out.mono ?_
  rintro e w4 ⟨g', c', A', cA', rfl, hg4, hu4, hs4⟩
  have e0 : sfC exF g' c' A' cA' = [.slice (some ⟨g', 0, none⟩) 1 c', .int .i64 2, .slice A' 1 cA', .int .i64 4, .int .i64 1] := by
    unfold sfC
    rw [ex_len]
    rfl
  rw [e0]
  have HG4 := Lib.hid (HG3.out.trans hg4)
  have HU4 := Lib.hid hu4
  have HS4 := Lib.hid hs4
  have HR4 := Lib.hid (HR3.out.grew hg4)
  clear hg4 hu4 hs4 e0 HG3 HR3 HAd
  obtain ⟨w5, hw5⟩ : ∃ w5, w4.alloc (.cells #[.slice (some ⟨g', 0, none⟩) 1 c', .int .i64 2, .slice A' 1 cA', .int .i64 4, .int .i64 1] 32) = w5 := ⟨_, rfl⟩
  have hg45 : Grew w4 w5 := by rw [← hw5]; exact (Grew.refl _).alloc _
  have HB5 : Hid (Blok w5 w4.heap.size 32 #[.slice (some ⟨g', 0, none⟩) 1 c', .int .i64 2, .slice A' 1 cA', .int .i64 4, .int .i64 1]) := Lib.hid (by rw [← hw5]; exact Blok.new _ _ _ _ rfl)
  have HP : Hid (∀ (W : World) (l : List Vl) (B : Option Addr) (cB : Nat) (n : Nat) (t : Bool), Grew w4 W → l.length = n → n ≤ 1000 → (∀ v ∈ l, v.s.size ≤ 3000) → (keyRowL l).length ≤ 1000000 → VlsR (PRow W) B l → (wholeV l && (haveS exF.ss l && hasN exF.ws exF.k (hashN exF.seed l))) = t → Gives Tryd.prog 9 #[.agg #[.slice (some ⟨g', 0, none⟩) 1 c', .int .i64 2, .slice A' 1 cA', .int .i64 4, .int .i64 1], .slice B n cB] W (.bool t)) := Lib.hid fun W l B cB n t hW hn hl hz hk hv ht => by
    subst hn
    have h := passes_any exF g' c' A' cA' l B cB (by rw [ex_len]; decide) (by rw [ex_len]; decide) (by decide) (by rw [ex_ws]; exact addW_ok 2 _ (ok_rep 1)) hl hz hk W (HU4.out.grew hW) (HS4.out.grew hW) hv (tab_grew HTab.out (HG4.out.trans hW))
    rw [ht, ex_len] at h
    exact h
  have HP1 := Lib.hid (HP.out w5 oneR (some ⟨gW, 0, none⟩) 1 1 true hg45 rfl (by decide) (by intro v hv; simp only [oneR, List.mem_cons, List.not_mem_nil, or_false] at hv; subst hv; decide) one_key (hone (HR4.out.grew hg45)) ex_passes)
  have HG5 := Lib.hid (HG4.out.trans hg45)
  have HG45 := Lib.hid hg45
  have Hw5 := Lib.hid hw5
  clear hg45 hw5 HU4 HS4 HG4 HR4
  go_wp2_with fail
  rw [Hw5.out]
  clear Hw5
  (with_reducible refine HP1.out.grows.mono ?_)
  rintro e w6 ⟨rfl, hg6⟩
  obtain ⟨w7, hw7⟩ : ∃ w7, w6.alloc (.cells #[.int .i64 0, .int .i64 0, .string ⟨#[]⟩] 46) = w7 := ⟨_, rfl⟩
  have hg67 : Grew w6 w7 := by rw [← hw7]; exact (Grew.refl _).alloc _
  have HR7 : Hid (Row w7 (some ⟨w6.heap.size, 0, none⟩) [.int .i64 0, .int .i64 0, .string ⟨#[]⟩]) := Lib.hid (by rw [← hw7]; exact row_new w6 _ _ _ rfl)
  have HP2 := Lib.hid (HP.out w7 [nulV] (some ⟨w6.heap.size, 0, none⟩) 1 1 false (HG45.out.trans (hg6.trans hg67)) rfl (by decide) (by intro v hv; simp only [List.mem_cons, List.not_mem_nil, or_false] at hv; subst hv; decide) nul_key (hnul HR7.out) rfl)
  have hb6 := HB5.out.grew hg6
  have c0 := hb6.cell 0
  have c1 := hb6.cell 1
  have c2 := hb6.cell 2
  have c3 := hb6.cell 3
  have c4 := hb6.cell 4
  simp at c0 c1 c2 c3 c4
  have hbl := hb6.lt
  have HB6 := Lib.hid hb6
  have HG6 := Lib.hid (HG5.out.trans hg6)
  have HG7 := Lib.hid (HG5.out.trans (hg6.trans hg67))
  have HG67 := Lib.hid hg67
  have Hw7 := Lib.hid hw7
  clear hb6 hg6 hg67 hw7 HP HP1 HB5 HG5 HG45 HR7
  go_wp2_with fail
  rw [Hw7.out]
  (with_reducible refine HP2.out.grows.mono ?_)
  rintro e w8 ⟨rfl, hg8⟩
  have hb8 := HB6.out.grew (HG67.out.trans hg8)
  have d0 := hb8.cell 0
  have d1 := hb8.cell 1
  have d2 := hb8.cell 2
  have d3 := hb8.cell 3
  have d4 := hb8.cell 4
  simp at d0 d1 d2 d3 d4
  have hbl8 := hb8.lt
  have HG8 := Lib.hid (HG7.out.trans hg8)
  have HCn := Lib.hid (scount_any (some ⟨g', 0, none⟩) A' 1 c' 1 cA' 2 4 1 w8)
  clear hb8 hg8 HP2 HB6 HG7 HG67 HG6 Hw7 c0 c1 c2 c3 c4 hbl
  go_wp2_with fail
  (with_reducible refine HCn.out.grows.mono ?_)
  rintro e w9 ⟨rfl, hg9⟩
  have HG9 := Lib.hid (HG8.out.trans hg9)
  clear hg9 HCn
  go_wp2
  go_ret
  exact ⟨rfl, HG9.out⟩
end Go.Proofs.YtpcbnmpfiepaeaaDoor

/- Layer 20: what was put is held, in one filter and in two put together. No condition. -/
namespace Go.Proofs.YtpcbnmpfiepaeaaDoor
open Go.RowKit
attribute [local irreducible] hashN

/-- The values at a place of the keys that are whole. -/
def colK (keys : List (List Vl)) (i : Nat) : List V := ((keys.filter wholeV).filter fun l => decide (i < l.length)).map fun l => toV (l.getD i nulV)
theorem colK_cons (key : List Vl) (keys : List (List Vl)) (i : Nat) : colK (key :: keys) i = if wholeV key = true ∧ i < key.length then toV (key.getD i nulV) :: colK keys i else colK keys i := by
  unfold colK
  by_cases hw : wholeV key = true
  · rw [List.filter_cons_of_pos hw]
    by_cases hi : i < key.length
    · rw [List.filter_cons_of_pos (by simpa using hi), if_pos ⟨hw, hi⟩]
      rfl
    · rw [List.filter_cons_of_neg (by simpa using hi), if_neg (fun h => hi h.2)]
  · rw [List.filter_cons_of_neg hw, if_neg (fun h => hw h.1)]
theorem withJ_getD (ss : List S) (l : List Vl) (i : Nat) : ∀ j, (withJ ss l j).getD i zeroS = if i < j then addS (ss.getD i zeroS) [toV (l.getD i nulV)] else ss.getD i zeroS
  | 0 => by rw [if_neg (Nat.not_lt_zero i)]; rfl
  | j + 1 => by
    have ih := withJ_getD ss l i j
    have hl := withJ_len ss l j
    show (stepS (withJ ss l j) j (l.getD j nulV)).getD i zeroS = _
    unfold stepS
    obtain ⟨cur, hc⟩ : ∃ cur, (if j < (withJ ss l j).length then withJ ss l j else withJ ss l j ++ [zeroS]) = cur := ⟨_, rfl⟩
    have hg : ∀ q, cur.getD q zeroS = (withJ ss l j).getD q zeroS := fun q => by
      rw [← hc]
      split
      · rfl
      · rw [List.getD_eq_getElem?_getD, List.getD_eq_getElem?_getD, List.getElem?_append]
        split
        · rfl
        · rename_i h
          rw [List.getElem?_eq_none (by omega : (withJ ss l j).length ≤ q)]
          rcases Nat.eq_or_lt_of_le (by omega : (withJ ss l j).length ≤ q) with h1 | h1
          · rw [← h1, Nat.sub_self]; rfl
          · rw [List.getElem?_eq_none (by simp; omega)]
    have hcl : j < cur.length := by
      rw [← hc]
      split
      · assumption
      · rw [List.length_append, List.length_singleton]; omega
    rw [hc]
    rw [List.getD_eq_getElem?_getD, List.getElem?_set]
    by_cases e : j = i
    · subst e
      rw [if_pos rfl, if_pos hcl, Option.getD_some, hg j, if_pos (Nat.lt_succ_self j), ih, if_neg (Nat.lt_irrefl j)]
    · rw [if_neg e, ← List.getD_eq_getElem?_getD, hg i, ih]
      by_cases h1 : i < j
      · rw [if_pos h1, if_pos (by omega)]
      · rw [if_neg h1, if_neg (by omega)]
theorem spansK_cons (ss : List S) (key : List Vl) (keys : List (List Vl)) : spansK ss (key :: keys) = spansK (if wholeV key then withJ ss key key.length else ss) keys := rfl
theorem spansK_getD (i : Nat) : ∀ (keys : List (List Vl)) (ss : List S), (spansK ss keys).getD i zeroS = addS (ss.getD i zeroS) (colK keys i)
  | [], ss => rfl
  | key :: keys, ss => by
    rw [spansK_cons, spansK_getD i keys, colK_cons]
    by_cases hw : wholeV key = true
    · rw [if_pos hw, withJ_getD]
      by_cases hi : i < key.length
      · rw [if_pos hi, if_pos ⟨hw, hi⟩, addS_append]
        rfl
      · rw [if_neg hi, if_neg (fun h => hi h.2)]
    · rw [if_neg hw, if_neg (fun h => hw h.1)]
theorem spansK_len : ∀ (keys : List (List Vl)) (ss : List S), ss.length ≤ (spansK ss keys).length ∧ ∀ r ∈ keys, wholeV r = true → r.length ≤ (spansK ss keys).length
  | [], ss => ⟨Nat.le_refl _, fun r hr => by cases hr⟩
  | key :: keys, ss => by
    rw [spansK_cons]
    obtain ⟨h1, h2⟩ := spansK_len keys (if wholeV key then withJ ss key key.length else ss)
    have h3 : ss.length ≤ (if wholeV key then withJ ss key key.length else ss).length := by
      split
      · rw [withJ_len]; omega
      · exact Nat.le_refl _
    refine ⟨Nat.le_trans h3 h1, fun r hr hw => ?_⟩
    rcases List.mem_cons.1 hr with rfl | hr
    · rw [if_pos hw] at h1
      rw [withJ_len] at h1
      rw [if_pos hw]
      omega
    · exact h2 r hr hw
theorem colK_mem {keys : List (List Vl)} {r : List Vl} (hr : r ∈ keys) (hw : wholeV r = true) {i : Nat} (hi : i < r.length) : toV (r.getD i nulV) ∈ colK keys i := by
  unfold colK
  exact List.mem_map.2 ⟨r, List.mem_filter.2 ⟨List.mem_filter.2 ⟨hr, hw⟩, by simpa using hi⟩, rfl⟩
theorem haveS_of : ∀ (key : List Vl) (ss : List S), key.length ≤ ss.length → (∀ i, i < key.length → hasS (ss.getD i zeroS) (toV (key.getD i nulV)) = true) → haveS ss key = true
  | [], ss, _, _ => by cases ss <;> rfl
  | v :: key, [], h, _ => by simp at h
  | v :: key, s :: ss, h, hx => by
    show (hasS s (toV v) && haveS ss key) = true
    have h0 := hx 0 (by simp)
    have e0 : hasS s (toV v) = true := h0
    rw [e0, haveS_of key ss (by simpa using h) (fun i hi => hx (i + 1) (by simpa using hi))]
    rfl
/-- A filter of new keys. -/
def ofK (seed words bits : Int) (keys : List (List Vl)) : Sf := addF (newF seed words bits) keys
theorem ofK_ss (seed words bits : Int) (keys : List (List Vl)) : (ofK seed words bits keys).ss = spansK [] keys := rfl
theorem ofK_ws (seed words bits : Int) (keys : List (List Vl)) : (ofK seed words bits keys).ws = addW (List.replicate (clampN words 4096) 0) (clampN bits 5) (numsK seed keys) := rfl
theorem ofK_k (seed words bits : Int) (keys : List (List Vl)) : (ofK seed words bits keys).k = clampN bits 5 := rfl
theorem ofK_seed (seed words bits : Int) (keys : List (List Vl)) : (ofK seed words bits keys).seed = seed := rfl
theorem ofK_cnt (seed words bits : Int) (keys : List (List Vl)) : (ofK seed words bits keys).cnt = ((keys.filter wholeV).length : Nat) := Int.zero_add _
theorem ofK_len (seed words bits : Int) (keys : List (List Vl)) : (ofK seed words bits keys).ws.length = clampN words 4096 := by
  rw [ofK_ws, addW_len, List.length_replicate]
theorem ofK_ok (seed words bits : Int) (keys : List (List Vl)) : wordsOk (ofK seed words bits keys).ws := by
  rw [ofK_ws]
  exact addW_ok _ _ (ok_rep _)
theorem ofK_few (seed words bits : Int) {keys : List (List Vl)} (hk : KeysOk keys) : (∀ s ∈ (ofK seed words bits keys).ss, FewN 1000 s) ∧ (ofK seed words bits keys).ss.length ≤ 1000 := by
  have h := spansK_few (m := 0) (ss := []) (keys := keys) (fun s hs => by cases hs) (by decide) hk keys.length (Nat.le_refl _)
  rw [List.take_length] at h
  rw [ofK_ss]
  refine ⟨fun s hs => ?_, h.2⟩
  obtain ⟨h1, h2, h3⟩ := h.1 s hs
  have := hk.1
  exact ⟨h1, h2, by omega⟩
theorem nums_mem {seed : Int} {keys : List (List Vl)} {r : List Vl} (hr : r ∈ keys) (hw : wholeV r = true) : hashN seed r ∈ numsK seed keys := List.mem_map.2 ⟨r, List.mem_filter.2 ⟨hr, hw⟩, rfl⟩
theorem nil_getD (i : Nat) : ([] : List S).getD i zeroS = zeroS := by simp
/-- What was put is held. -/
theorem ofK_holds (seed words bits : Int) {keys : List (List Vl)} {r : List Vl} (hr : r ∈ keys) : (wholeV r && (haveS (ofK seed words bits keys).ss r && hasN (ofK seed words bits keys).ws (ofK seed words bits keys).k (hashN (ofK seed words bits keys).seed r))) = wholeV r := by
  cases hw : wholeV r
  · rfl
  · have h1 : haveS (ofK seed words bits keys).ss r = true := by
      rw [ofK_ss]
      refine haveS_of r _ ((spansK_len keys []).2 r hr hw) (fun i hi => ?_)
      rw [spansK_getD, nil_getD]
      exact hasS_mem _ _ (colK_mem hr hw hi)
    have h2 : hasN (ofK seed words bits keys).ws (ofK seed words bits keys).k (hashN (ofK seed words bits keys).seed r) = true := by
      rw [ofK_ws, ofK_k, ofK_seed]
      exact has_added _ _ (clamp_le words 4096 (by decide)).2 _ _ (nums_mem hr hw)
    rw [h1, h2]
    rfl
/-- What was put into either of two is held by both put together. -/
theorem unF_holds (seed words bits : Int) {ka kb : List (List Vl)} {r : List Vl} (hr : r ∈ ka ∨ r ∈ kb) : (wholeV r && (haveS (unF (ofK seed words bits ka) (ofK seed words bits kb)).ss r && hasN (unF (ofK seed words bits ka) (ofK seed words bits kb)).ws (unF (ofK seed words bits ka) (ofK seed words bits kb)).k (hashN (unF (ofK seed words bits ka) (ofK seed words bits kb)).seed r))) = wholeV r := by
  cases hw : wholeV r
  · rfl
  · have hp := (clamp_le words 4096 (by decide)).2
    have h1 : haveS (unF (ofK seed words bits ka) (ofK seed words bits kb)).ss r = true := by
      show haveS (uniJ (spansK [] ka) (spansK [] kb) (spansK [] kb).length) r = true
      have hlen : r.length ≤ max (spansK [] ka).length (spansK [] kb).length := by
        rcases hr with h | h
        · have := (spansK_len ka []).2 r h hw; omega
        · have := (spansK_len kb []).2 r h hw; omega
      refine haveS_of r _ (by rw [uniJ_len]; exact hlen) (fun i hi => ?_)
      rw [uniJ_getD _ _ _ (Nat.le_refl _), spansK_getD, nil_getD, spansK_getD, nil_getD]
      split
      · rw [addS_union]
        refine hasS_mem _ _ (List.mem_append.2 ?_)
        rcases hr with h | h
        · exact Or.inr (colK_mem h hw hi)
        · exact Or.inl (colK_mem h hw hi)
      · rename_i hn
        rcases hr with h | h
        · exact hasS_mem _ _ (colK_mem h hw hi)
        · have := (spansK_len kb []).2 r h hw
          omega
    have h2 : hasN (unF (ofK seed words bits ka) (ofK seed words bits kb)).ws (unF (ofK seed words bits ka) (ofK seed words bits kb)).k (hashN (unF (ofK seed words bits ka) (ofK seed words bits kb)).seed r) = true := by
      show hasN (unionW (ofK seed words bits ka).ws (ofK seed words bits kb).ws) (clampN bits 5) (hashN seed r) = true
      rcases hr with h | h
      · rw [ofK_ws, ofK_ws]
        exact has_union _ _ hp _ _ _ (nums_mem h hw)
      · rw [unionW_comm _ _ (by rw [ofK_len, ofK_len]), ofK_ws, ofK_ws]
        exact has_union _ _ hp _ _ _ (nums_mem h hw)
    rw [h1, h2]
    rfl
end Go.Proofs.YtpcbnmpfiepaeaaDoor

/- Layer 20: when a key may have been put: the code's way and the document's are one. No condition. -/
namespace Go.Proofs.YtpcbnmpfiepaeaaDoor
open Go.RowKit
attribute [local irreducible] hashN

/-- The longest of them. -/
def longK (m : Nat) (l : List (List Vl)) : Nat := l.foldl (fun m r => max m r.length) m
theorem spansK_length : ∀ (keys : List (List Vl)) (ss : List S), (spansK ss keys).length = longK ss.length (keys.filter wholeV)
  | [], _ => rfl
  | key :: keys, ss => by
    rw [spansK_cons, spansK_length keys]
    by_cases hw : wholeV key = true
    · rw [if_pos hw, List.filter_cons_of_pos hw, withJ_len]
      rfl
    · rw [if_neg hw, List.filter_cons_of_neg hw]
theorem haveS_iff : ∀ (key : List Vl) (ss : List S), haveS ss key = true ↔ key.length ≤ ss.length ∧ ∀ i, i < key.length → hasS (ss.getD i zeroS) (toV (key.getD i nulV)) = true
  | [], ss => by
    have e : haveS ss [] = true := by cases ss <;> rfl
    simp [e]
  | v :: key, [] => by
    have e : haveS [] (v :: key) = false := rfl
    simp [e]
  | v :: key, s :: ss => by
    have e : haveS (s :: ss) (v :: key) = (hasS s (toV v) && haveS ss key) := rfl
    rw [e, Bool.and_eq_true, haveS_iff key ss]
    constructor
    · rintro ⟨h1, h2, h3⟩
      refine ⟨by simpa using h2, fun i hi => ?_⟩
      rcases i with _ | i
      · exact h1
      · exact h3 i (by simpa using hi)
    · rintro ⟨h1, h2⟩
      exact ⟨h2 0 (by simp), by simpa using h1, fun i hi => h2 (i + 1) (by simpa using hi)⟩
theorem mask_pos (x k : Nat) : maskN x (k + 1) ≠ 0 := by
  intro h
  have h2 : (maskN x (k + 1)).testBit ((x >>> (6 * k)) % 64) = false := by rw [h]; exact Nat.zero_testBit _
  have h3 : (maskN x (k + 1)).testBit ((x >>> (6 * k)) % 64) = true := by
    show (maskN x k ||| (1 <<< ((x >>> (6 * k)) % 64))).testBit _ = true
    rw [Nat.testBit_or, Nat.one_shiftLeft, Nat.testBit_two_pow_self, Bool.or_true]
  rw [h3] at h2
  cases h2
theorem hasN_rep (n k x : Nat) (hk : 0 < k) : hasN (List.replicate n 0) k x = false := by
  obtain ⟨q, rfl⟩ : ∃ q, k = q + 1 := ⟨k - 1, by omega⟩
  unfold hasN
  have e : (List.replicate n 0).getD (buckN x (List.replicate n 0).length) 0 = 0 := by
    rw [List.getD_eq_getElem?_getD, List.getElem?_replicate]
    split <;> rfl
  rw [e, Nat.zero_and, beq_eq_false_iff_ne]
  exact fun h => mask_pos x q h.symm
/-- A key passes just if the document says so. -/
theorem passes_doc (seed words nb : Int) (keys : List (List Vl)) (key : List Vl) : (wholeV key && (haveS (ofK seed words nb keys).ss key && hasN (ofK seed words nb keys).ws (ofK seed words nb keys).k (hashN (ofK seed words nb keys).seed key))) = true ↔
    keys.filter wholeV ≠ [] ∧ wholeV key = true ∧ key.length ≤ longK 0 (keys.filter wholeV) ∧ (∀ i, i < key.length → hasS (addS zeroS (colK keys i)) (toV (key.getD i nulV)) = true) ∧ hasN (addW (List.replicate (clampN words 4096) 0) (clampN nb 5) (numsK seed keys)) (clampN nb 5) (hashN seed key) = true := by
  rw [ofK_ws, ofK_k, ofK_seed, ofK_ss, Bool.and_eq_true, Bool.and_eq_true, haveS_iff, spansK_length]
  have hs : ∀ i, (spansK [] keys).getD i zeroS = addS zeroS (colK keys i) := fun i => by rw [spansK_getD, nil_getD]
  constructor
  · rintro ⟨h1, ⟨h2, h3⟩, h4⟩
    refine ⟨fun he => ?_, h1, h2, fun i hi => by rw [← hs]; exact h3 i hi, h4⟩
    have e : numsK seed keys = [] := by unfold numsK; rw [he]; rfl
    rw [e] at h4
    have h5 := hasN_rep (clampN words 4096) (clampN nb 5) (hashN seed key) (clamp_le nb 5 (by decide)).2
    have e2 : addW (List.replicate (clampN words 4096) 0) (clampN nb 5) [] = List.replicate (clampN words 4096) 0 := rfl
    rw [e2, h5] at h4
    cases h4
  · rintro ⟨_, h1, h2, h3, h4⟩
    exact ⟨h1, ⟨h2, fun i hi => by rw [hs]; exact h3 i hi⟩, h4⟩
end Go.Proofs.YtpcbnmpfiepaeaaDoor

/- Layer 18: bits of words as truths; how many are one: plain mathematics. No condition. -/
namespace Go.Proofs.YtpcbnmpfiepaeaaDoor.B18

/-- The ones of the lowest n bits. -/
def onesN : Nat → Nat → Nat
  | 0, _ => 0
  | n + 1, x => x % 2 + onesN n (x / 2)
theorem onesN_add (a b x : Nat) : onesN (a + b) x = onesN a x + onesN b (x / 2 ^ a) := by
  induction a generalizing x with
  | zero => simp [onesN]
  | succ a ih =>
    rw [show a + 1 + b = (a + b) + 1 by omega]
    show x % 2 + onesN (a + b) (x / 2) = x % 2 + onesN a (x / 2) + _
    rw [ih, Nat.div_div_eq_div_mul, show 2 * 2 ^ a = 2 ^ (a + 1) by rw [Nat.pow_succ, Nat.mul_comm], Nat.add_assoc]
theorem ones_byte (n v q : Nat) (h : v < 256) : onesN (8 + n) (v + 256 * q) = onesN 8 v + onesN n q := by
  rw [onesN_add, show (v + 256 * q) / 2 ^ 8 = q by omega]
  congr 1
  simp only [onesN]
  omega
theorem land_byte (a m A M : Nat) (ha : a < 256) (hm : m < 256) : (a + 256 * A) &&& (m + 256 * M) = (a &&& m) + 256 * (A &&& M) := by
  have hl : a &&& m < 2 ^ 8 := Nat.lt_of_le_of_lt Nat.and_le_left ha
  rw [Nat.add_comm a, Nat.add_comm m, Nat.add_comm (a &&& m)]
  apply Nat.eq_of_testBit_eq
  intro i
  rw [Nat.testBit_and, show 256 = 2 ^ 8 from rfl, Nat.testBit_two_pow_mul_add _ ha, Nat.testBit_two_pow_mul_add _ hm, Nat.testBit_two_pow_mul_add _ hl]
  split
  · rw [Nat.testBit_and]
  · rw [Nat.testBit_and]
def mk (k : Nat) : Nat → Nat
  | 0 => 0
  | n + 1 => k + 256 * mk k n
theorem mk_succ (k n : Nat) : mk k (n + 1) = k + 256 * mk k n := rfl
def b1 (v : Nat) : Nat := ((v / 2) &&& 85) + (v &&& 85)
def b2 (v : Nat) : Nat := ((v / 4) &&& 51) + (v &&& 51)
def b3 (v : Nat) : Nat := v / 16 + v % 16
def p1 (n x : Nat) : Nat := ((x / 2) &&& mk 85 n) + (x &&& mk 85 n)
def p2 (n x : Nat) : Nat := ((x / 4) &&& mk 51 n) + (x &&& mk 51 n)
def p3 (n x : Nat) : Nat := (x / 16 + x) &&& mk 15 n
theorem f1 : ∀ (v : Fin 128) (b : Fin 2), (v.val + 128 * b.val) &&& 85 = v.val &&& 85 := by decide +kernel
theorem f2 : ∀ (v : Fin 64) (b : Fin 4), (v.val + 64 * b.val) &&& 51 = v.val &&& 51 := by decide +kernel
theorem f3 : ∀ (v : Fin 256), b3 (b2 (b1 v.val)) = onesN 8 v.val ∧ b2 (b1 v.val) % 16 ≤ 4 ∧ b2 (b1 v.val) / 16 ≤ 4 ∧ b1 v.val < 256 ∧ b2 (b1 v.val) < 256 ∧ onesN 8 v.val ≤ 8 := by decide +kernel
theorem p1_step (n v q : Nat) (h : v < 256) : p1 (n + 1) (v + 256 * q) = b1 v + 256 * p1 n q := by
  unfold p1 b1
  rw [mk_succ]
  rw [land_byte v _ q _ h (by decide), show (v + 256 * q) / 2 = (v / 2 + 128 * (q % 2)) + 256 * (q / 2) by omega, land_byte _ _ _ _ (by omega) (by decide)]
  have := f1 ⟨v / 2, by omega⟩ ⟨q % 2, by omega⟩
  simp only at this
  rw [this]
  omega
theorem p2_step (n v q : Nat) (h : v < 256) : p2 (n + 1) (v + 256 * q) = b2 v + 256 * p2 n q := by
  unfold p2 b2
  rw [mk_succ]
  rw [land_byte v _ q _ h (by decide), show (v + 256 * q) / 4 = (v / 4 + 64 * (q % 4)) + 256 * (q / 4) by omega, land_byte _ _ _ _ (by omega) (by decide)]
  have := f2 ⟨v / 4, by omega⟩ ⟨q % 4, by omega⟩
  simp only at this
  rw [this]
  omega
theorem p3_step (n v q : Nat) (h : v % 16 ≤ 4) (h' : v / 16 ≤ 4) (hq : q % 16 ≤ 4) : p3 (n + 1) (v + 256 * q) = b3 v + 256 * p3 n q := by
  unfold p3 b3
  rw [mk_succ]
  rw [show (v + 256 * q) / 16 + (v + 256 * q) = (v / 16 + 16 * (q % 16) + v) + 256 * (q / 16 + q) by omega, land_byte _ _ _ _ (by omega) (by decide)]
  congr 1
  rw [show (15 : Nat) = 2 ^ 4 - 1 from rfl, Nat.and_two_pow_sub_one_eq_mod]
  omega
theorem p1_zero (x : Nat) : p1 0 x = 0 := by simp [p1, mk]
theorem p2_zero (x : Nat) : p2 0 x = 0 := by simp [p2, mk]
theorem p3_zero (x : Nat) : p3 0 x = 0 := by simp [p3, mk]
theorem mod256 (a b : Nat) : (a + 256 * b) % 16 = a % 16 := by omega
theorem shr (a q : Nat) (h : a < 256) : (a + 256 * q) / 256 = q := by omega
theorem col (a b A B : Nat) : (a + 256 * A) + (b + 256 * B) = (a + b) + 256 * (A + B) := by omega
theorem lts (a q M : Nat) (ha : a < 256) (hq : q < M) : a + 256 * q < 256 * M := by omega
theorem bd8 (a0 a1 a2 a3 a4 a5 a6 a7 : Nat) (h0 : a0 < 256) (h1 : a1 < 256) (h2 : a2 < 256) (h3 : a3 < 256) (h4 : a4 < 256) (h5 : a5 < 256) (h6 : a6 < 256) (h7 : a7 < 256) : a0 + 256 * (a1 + 256 * (a2 + 256 * (a3 + 256 * (a4 + 256 * (a5 + 256 * (a6 + 256 * a7)))))) < 18446744073709551616 :=
  lts _ _ _ h0 (lts _ _ _ h1 (lts _ _ _ h2 (lts _ _ _ h3 (lts _ _ _ h4 (lts _ _ _ h5 (lts _ _ _ h6 h7))))))
theorem bdk (k a0 a1 a2 a3 a4 a5 a6 a7 : Nat) (h0 : a0 < 256) (h1 : a1 < 256) (h2 : a2 < 256) (h3 : a3 < 256) (h4 : a4 < 256) (h5 : a5 < 256) (h6 : a6 < 256) (h7 : a7 < k) : a0 + 256 * (a1 + 256 * (a2 + 256 * (a3 + 256 * (a4 + 256 * (a5 + 256 * (a6 + 256 * a7)))))) < 72057594037927936 * k := by
  have := lts _ _ _ h0 (lts _ _ _ h1 (lts _ _ _ h2 (lts _ _ _ h3 (lts _ _ _ h4 (lts _ _ _ h5 (lts _ _ _ h6 h7))))))
  refine Nat.lt_of_lt_of_le this (Nat.le_of_eq ?_)
  clear this
  omega

theorem add1 (o0 o1 o2 o3 o4 o5 o6 o7 : Nat) : (o0 + 256 * (o1 + 256 * (o2 + 256 * (o3 + 256 * (o4 + 256 * (o5 + 256 * (o6 + 256 * o7))))))) + (o1 + 256 * (o2 + 256 * (o3 + 256 * (o4 + 256 * (o5 + 256 * (o6 + 256 * o7)))))) = (o0 + o1) + 256 * ((o1 + o2) + 256 * ((o2 + o3) + 256 * ((o3 + o4) + 256 * ((o4 + o5) + 256 * ((o5 + o6) + 256 * ((o6 + o7) + 256 * o7)))))) := by
  rw [col, col, col, col, col, col, Nat.add_right_comm o6 _ o7]
theorem add2 (s0 s1 s2 s3 s4 s5 s6 o7 : Nat) : s0 + 256 * (s1 + 256 * (s2 + 256 * (s3 + 256 * (s4 + 256 * (s5 + 256 * (s6 + 256 * o7)))))) + (s2 + 256 * (s3 + 256 * (s4 + 256 * (s5 + 256 * (s6 + 256 * o7))))) = (s0 + s2) + 256 * ((s1 + s3) + 256 * ((s2 + s4) + 256 * ((s3 + s5) + 256 * ((s4 + s6) + 256 * ((s5 + o7) + 256 * (s6 + 256 * o7)))))) := by
  rw [col, col, col, col, col, Nat.add_right_comm s5 _ o7]
theorem add3 (t0 t1 t2 t3 t4 t5 s6 o7 : Nat) : t0 + 256 * (t1 + 256 * (t2 + 256 * (t3 + 256 * (t4 + 256 * (t5 + 256 * (s6 + 256 * o7)))))) + (t4 + 256 * (t5 + 256 * (s6 + 256 * o7))) = (t0 + t4) + 256 * ((t1 + t5) + 256 * ((t2 + s6) + 256 * ((t3 + o7) + 256 * (t4 + 256 * (t5 + 256 * (s6 + 256 * o7)))))) := by
  rw [col, col, col, Nat.add_right_comm t3 _ o7]
theorem shr2 (a b q : Nat) (h : a < 256) (h2 : b < 256) : (a + 256 * (b + 256 * q)) / 65536 = q := by
  rw [show 65536 = 256 * 256 from rfl, ← Nat.div_div_eq_div_mul, shr _ _ h, shr _ _ h2]
theorem shr4 (a b c d q : Nat) (h : a < 256) (h2 : b < 256) (h3 : c < 256) (h4 : d < 256) : (a + 256 * (b + 256 * (c + 256 * (d + 256 * q)))) / 4294967296 = q := by
  rw [show 4294967296 = 65536 * 65536 from rfl, ← Nat.div_div_eq_div_mul, shr2 _ _ _ h h2, shr2 _ _ _ h3 h4]
theorem low7 (a Z : Nat) (h : a < 128) : (a + 256 * Z) % 128 = a := by omega
theorem sum_up (o0 o1 o2 o3 o4 o5 o6 o7 : Nat) (m0 : o0 ≤ 8) (m1 : o1 ≤ 8) (m2 : o2 ≤ 8) (m3 : o3 ≤ 8) (m4 : o4 ≤ 8) (m5 : o5 ≤ 8) (m6 : o6 ≤ 8) (m7 : o7 ≤ 8) (c : Nat) (hc : o0 + 256 * (o1 + 256 * (o2 + 256 * (o3 + 256 * (o4 + 256 * (o5 + 256 * (o6 + 256 * o7)))))) = c) :
    ∃ y, c + c / 256 = y ∧ (y + y / 65536) + (y + y / 65536) / 4294967296 < 9223372036854775808 ∧ ((y + y / 65536) + (y + y / 65536) / 4294967296) % 128 = o0 + (o1 + (o2 + (o3 + (o4 + (o5 + (o6 + o7)))))) := by
  have h1 : c / 256 = _ := hc ▸ shr o0 _ (by omega)
  have hy : c + c / 256 = _ := (congrArg (c + ·) h1).trans ((congrArg (· + _) hc.symm).trans (add1 o0 o1 o2 o3 o4 o5 o6 o7))
  refine ⟨_, hy, ?_⟩
  rw [shr2 _ _ _ (by omega) (by omega), add2, shr4 _ _ _ _ _ (by omega) (by omega) (by omega) (by omega), add3]
  refine ⟨Nat.lt_of_lt_of_le (bdk 128 _ _ _ _ _ _ _ _ (by omega) (by omega) (by omega) (by omega) (by omega) (by omega) (by omega) (by omega)) (by decide), ?_⟩
  rw [low7 _ _ (by omega)]
  clear hy h1 hc
  omega
/-- What the bits of a word come to, by halves. -/
theorem ones_all (x : Nat) (hx : x < 18446744073709551616) : ∃ a b c y : Nat, p1 8 x = a ∧ p2 8 a = b ∧ p3 8 b = c ∧ a < 18446744073709551616 ∧ b < 72057594037927936 * 100 ∧ c < 72057594037927936 * 9 ∧
    c + c / 256 = y ∧ (y + y / 65536) + (y + y / 65536) / 4294967296 < 9223372036854775808 ∧ ((y + y / 65536) + (y + y / 65536) / 4294967296) % 128 = onesN 64 x ∧ onesN 64 x ≤ 64 := by
  obtain ⟨v0, q0, h0, e0, l0⟩ : ∃ v q, v < 256 ∧ x = v + 256 * q ∧ q < 72057594037927936 := ⟨x % 256, x / 256, by omega, by omega, by omega⟩
  obtain ⟨v1, q1, h1, e1, l1⟩ : ∃ v q, v < 256 ∧ q0 = v + 256 * q ∧ q < 281474976710656 := ⟨q0 % 256, q0 / 256, by omega, by omega, by omega⟩
  obtain ⟨v2, q2, h2, e2, l2⟩ : ∃ v q, v < 256 ∧ q1 = v + 256 * q ∧ q < 1099511627776 := ⟨q1 % 256, q1 / 256, by omega, by omega, by omega⟩
  obtain ⟨v3, q3, h3, e3, l3⟩ : ∃ v q, v < 256 ∧ q2 = v + 256 * q ∧ q < 4294967296 := ⟨q2 % 256, q2 / 256, by omega, by omega, by omega⟩
  obtain ⟨v4, q4, h4, e4, l4⟩ : ∃ v q, v < 256 ∧ q3 = v + 256 * q ∧ q < 16777216 := ⟨q3 % 256, q3 / 256, by omega, by omega, by omega⟩
  obtain ⟨v5, q5, h5, e5, l5⟩ : ∃ v q, v < 256 ∧ q4 = v + 256 * q ∧ q < 65536 := ⟨q4 % 256, q4 / 256, by omega, by omega, by omega⟩
  obtain ⟨v6, v7, h6, e6, h7⟩ : ∃ v q, v < 256 ∧ q5 = v + 256 * q ∧ q < 256 := ⟨q5 % 256, q5 / 256, by omega, by omega, by omega⟩
  subst e6 e5 e4 e3 e2 e1 e0
  clear hx l0 l1 l2 l3 l4 l5
  have t0 := f3 ⟨v0, h0⟩
  have t1 := f3 ⟨v1, h1⟩
  have t2 := f3 ⟨v2, h2⟩
  have t3 := f3 ⟨v3, h3⟩
  have t4 := f3 ⟨v4, h4⟩
  have t5 := f3 ⟨v5, h5⟩
  have t6 := f3 ⟨v6, h6⟩
  have t7 := f3 ⟨v7, h7⟩
  simp only at t0 t1 t2 t3 t4 t5 t6 t7
  have E : onesN 64 (v0 + 256 * (v1 + 256 * (v2 + 256 * (v3 + 256 * (v4 + 256 * (v5 + 256 * (v6 + 256 * v7))))))) = onesN 8 v0 + (onesN 8 v1 + (onesN 8 v2 + (onesN 8 v3 + (onesN 8 v4 + (onesN 8 v5 + (onesN 8 v6 + onesN 8 v7)))))) := by
    rw [show 64 = 8 + (8 + (8 + (8 + (8 + (8 + (8 + 8)))))) from rfl, ones_byte _ _ _ h0, ones_byte _ _ _ h1, ones_byte _ _ _ h2, ones_byte _ _ _ h3, ones_byte _ _ _ h4, ones_byte _ _ _ h5, ones_byte _ _ _ h6]
  have P1 : p1 8 (v0 + 256 * (v1 + 256 * (v2 + 256 * (v3 + 256 * (v4 + 256 * (v5 + 256 * (v6 + 256 * v7))))))) = b1 v0 + 256 * (b1 v1 + 256 * (b1 v2 + 256 * (b1 v3 + 256 * (b1 v4 + 256 * (b1 v5 + 256 * (b1 v6 + 256 * b1 v7)))))) := by
    rw [p1_step _ _ _ h0, p1_step _ _ _ h1, p1_step _ _ _ h2, p1_step _ _ _ h3, p1_step _ _ _ h4, p1_step _ _ _ h5, p1_step _ _ _ h6]
    have := p1_step 0 v7 0 h7
    rw [p1_zero, Nat.mul_zero, Nat.add_zero, Nat.add_zero] at this
    rw [this, Nat.add_zero]
  generalize b1 v0 = a0 at *
  generalize b1 v1 = a1 at *
  generalize b1 v2 = a2 at *
  generalize b1 v3 = a3 at *
  generalize b1 v4 = a4 at *
  generalize b1 v5 = a5 at *
  generalize b1 v6 = a6 at *
  generalize b1 v7 = a7 at *
  have P2 : p2 8 (a0 + 256 * (a1 + 256 * (a2 + 256 * (a3 + 256 * (a4 + 256 * (a5 + 256 * (a6 + 256 * a7))))))) = b2 a0 + 256 * (b2 a1 + 256 * (b2 a2 + 256 * (b2 a3 + 256 * (b2 a4 + 256 * (b2 a5 + 256 * (b2 a6 + 256 * b2 a7)))))) := by
    rw [p2_step _ _ _ t0.2.2.2.1, p2_step _ _ _ t1.2.2.2.1, p2_step _ _ _ t2.2.2.2.1, p2_step _ _ _ t3.2.2.2.1, p2_step _ _ _ t4.2.2.2.1, p2_step _ _ _ t5.2.2.2.1, p2_step _ _ _ t6.2.2.2.1]
    have := p2_step 0 a7 0 t7.2.2.2.1
    rw [p2_zero, Nat.mul_zero, Nat.add_zero, Nat.add_zero] at this
    rw [this, Nat.add_zero]
  generalize b2 a0 = c0 at *
  generalize b2 a1 = c1 at *
  generalize b2 a2 = c2 at *
  generalize b2 a3 = c3 at *
  generalize b2 a4 = c4 at *
  generalize b2 a5 = c5 at *
  generalize b2 a6 = c6 at *
  generalize b2 a7 = c7 at *
  have P3 : p3 8 (c0 + 256 * (c1 + 256 * (c2 + 256 * (c3 + 256 * (c4 + 256 * (c5 + 256 * (c6 + 256 * c7))))))) = b3 c0 + 256 * (b3 c1 + 256 * (b3 c2 + 256 * (b3 c3 + 256 * (b3 c4 + 256 * (b3 c5 + 256 * (b3 c6 + 256 * b3 c7)))))) := by
    rw [p3_step _ _ _ t0.2.1 t0.2.2.1 (by rw [mod256]; exact t1.2.1), p3_step _ _ _ t1.2.1 t1.2.2.1 (by rw [mod256]; exact t2.2.1), p3_step _ _ _ t2.2.1 t2.2.2.1 (by rw [mod256]; exact t3.2.1), p3_step _ _ _ t3.2.1 t3.2.2.1 (by rw [mod256]; exact t4.2.1), p3_step _ _ _ t4.2.1 t4.2.2.1 (by rw [mod256]; exact t5.2.1), p3_step _ _ _ t5.2.1 t5.2.2.1 (by rw [mod256]; exact t6.2.1), p3_step _ _ _ t6.2.1 t6.2.2.1 (by exact t7.2.1)]
    have := p3_step 0 c7 0 t7.2.1 t7.2.2.1 (by omega)
    rw [p3_zero, Nat.mul_zero, Nat.add_zero, Nat.add_zero] at this
    rw [this, Nat.add_zero]
  rw [t0.1, t1.1, t2.1, t3.1, t4.1, t5.1, t6.1, t7.1] at P3
  obtain ⟨_, u0, w0, r0, s0, m0⟩ := t0
  obtain ⟨_, u1, w1, r1, s1, m1⟩ := t1
  obtain ⟨_, u2, w2, r2, s2, m2⟩ := t2
  obtain ⟨_, u3, w3, r3, s3, m3⟩ := t3
  obtain ⟨_, u4, w4, r4, s4, m4⟩ := t4
  obtain ⟨_, u5, w5, r5, s5, m5⟩ := t5
  obtain ⟨_, u6, w6, r6, s6, m6⟩ := t6
  obtain ⟨_, u7, w7, r7, s7, m7⟩ := t7
  generalize onesN 8 v0 = o0 at *
  generalize onesN 8 v1 = o1 at *
  generalize onesN 8 v2 = o2 at *
  generalize onesN 8 v3 = o3 at *
  generalize onesN 8 v4 = o4 at *
  generalize onesN 8 v5 = o5 at *
  generalize onesN 8 v6 = o6 at *
  generalize onesN 8 v7 = o7 at *
  have a7 : c7 < 100 := by omega
  rw [E]
  obtain ⟨y, hy, hb, hm⟩ := sum_up o0 o1 o2 o3 o4 o5 o6 o7 m0 m1 m2 m3 m4 m5 m6 m7 _ rfl
  refine ⟨_, _, _, y, P1, P2, P3, bd8 _ _ _ _ _ _ _ _ r0 r1 r2 r3 r4 r5 r6 r7, bdk 100 _ _ _ _ _ _ _ _ s0 s1 s2 s3 s4 s5 s6 a7, bdk 9 _ _ _ _ _ _ _ _ (by omega) (by omega) (by omega) (by omega) (by omega) (by omega) (by omega) (by omega), hy, hb, hm, ?_⟩
  clear hy hb hm P1 P2 P3 E
  omega

/-- The document's truths of some words. -/
def bitL (ws : List Nat) : List Bool := (List.range (64 * ws.length)).map fun i => (ws.getD (i / 64) 0).testBit (i % 64)
theorem bitL_len (ws : List Nat) : (bitL ws).length = 64 * ws.length := by simp [bitL]
theorem bitL_at (ws : List Nat) (i : Nat) (h : i < 64 * ws.length) : (bitL ws)[i]? = some ((ws.getD (i / 64) 0).testBit (i % 64)) := by
  unfold bitL
  rw [List.getElem?_map, List.getElem?_range h]
  rfl
theorem bitL_rep (n : Nat) : bitL (List.replicate n 0) = List.replicate (64 * n) false := by
  apply List.ext_getElem?
  intro i
  by_cases h : i < 64 * n
  · rw [bitL_at _ _ (by simpa using h), List.getElem?_replicate, if_pos h]
    congr 1
    rw [List.getD_eq_getElem?_getD, List.getElem?_replicate, if_pos (by omega)]
    exact Nat.zero_testBit _
  · rw [List.getElem?_eq_none (by rw [bitL_len]; simp; omega), List.getElem?_eq_none (by simp; omega)]
theorem getD_set' (ws : List Nat) (b v i : Nat) (hb : b < ws.length) : (ws.set b v).getD i 0 = if b = i then v else ws.getD i 0 := by
  rw [List.getD_eq_getElem?_getD, List.getD_eq_getElem?_getD, List.getElem?_set]
  by_cases e : b = i
  · subst e; simp [hb]
  · simp [e]
theorem bitL_set (ws : List Nat) (b s : Nat) (hb : b < ws.length) (hs : s < 64) : bitL (ws.set b (ws.getD b 0 ||| 2 ^ s)) = (bitL ws).set (64 * b + s) true := by
  apply List.ext_getElem?
  intro i
  rw [List.getElem?_set, bitL_len]
  by_cases h : i < 64 * ws.length
  · rw [bitL_at _ _ (by simpa using h), bitL_at _ _ h, getD_set' _ _ _ _ hb]
    by_cases e : 64 * b + s = i
    · rw [if_pos e, if_pos (by omega), if_pos (by omega), Nat.testBit_or, Nat.testBit_two_pow, show i % 64 = s by omega]
      simp
    · rw [if_neg e]
      by_cases e2 : b = i / 64
      · rw [if_pos e2, Nat.testBit_or, Nat.testBit_two_pow, ← e2, decide_eq_false (by omega), Bool.or_false]
      · rw [if_neg e2]
  · rw [List.getElem?_eq_none (by rw [bitL_len]; simpa using h), List.getElem?_eq_none (by rw [bitL_len]; omega), if_neg (by omega)]
/-- A number's place of its bit j. -/
def placeN (n h j : Nat) : Nat := 64 * buckN h n + (h / 64 ^ j) % 64
theorem place_is (h j : Nat) : (h >>> (6 * j)) % 64 = (h / 64 ^ j) % 64 := by
  rw [Nat.shiftRight_eq_div_pow, Nat.pow_mul]
theorem maskN_succ (h j : Nat) : maskN h (j + 1) = maskN h j ||| 2 ^ ((h / 64 ^ j) % 64) := by
  show maskN h j ||| (1 <<< ((h >>> (6 * j)) % 64)) = _
  rw [Nat.one_shiftLeft, place_is]
theorem addN_zero (ws : List Nat) (h : Nat) : addN ws 0 h = ws := by
  unfold addN
  show ws.set _ (_ ||| 0) = ws
  rw [Nat.or_zero]
  apply List.ext_getElem?
  intro i
  rw [List.getElem?_set]
  by_cases e : buckN h ws.length = i
  · subst e
    by_cases hb : buckN h ws.length < ws.length
    · rw [if_pos rfl, if_pos hb, List.getElem?_eq_getElem hb, List.getD_eq_getElem?_getD, List.getElem?_eq_getElem hb]; rfl
    · rw [if_pos rfl, if_neg hb, List.getElem?_eq_none (by omega)]
  · rw [if_neg e]
theorem addN_len' (ws : List Nat) (k h : Nat) : (addN ws k h).length = ws.length := by unfold addN; simp
theorem addN_succ (ws : List Nat) (j h : Nat) (h0 : 0 < ws.length) : bitL (addN ws (j + 1) h) = (bitL (addN ws j h)).set (placeN ws.length h j) true := by
  have hb : buckN h ws.length < ws.length := Nat.mod_lt _ h0
  have hs : (h / 64 ^ j) % 64 < 64 := Nat.mod_lt _ (by decide)
  have := bitL_set (addN ws j h) (buckN h ws.length) ((h / 64 ^ j) % 64) (by rw [addN_len']; exact hb) hs
  rw [show placeN ws.length h j = 64 * buckN h ws.length + (h / 64 ^ j) % 64 from rfl, ← this]
  congr 1
  unfold addN
  rw [getD_set' _ _ _ _ hb, if_pos rfl, List.set_set, maskN_succ, Nat.or_assoc]
theorem place_lt (ws : List Nat) (h j : Nat) (h0 : 0 < ws.length) : placeN ws.length h j < 64 * ws.length := by
  have hb : buckN h ws.length < ws.length := Nat.mod_lt _ h0
  have hs : (h / 64 ^ j) % 64 < 64 := Nat.mod_lt _ (by decide)
  unfold placeN
  omega
theorem place_bit (ws : List Nat) (h j : Nat) (h0 : 0 < ws.length) : (bitL ws)[placeN ws.length h j]? = some ((ws.getD (buckN h ws.length) 0).testBit ((h / 64 ^ j) % 64)) := by
  rw [bitL_at _ _ (place_lt ws h j h0)]
  have hs : (h / 64 ^ j) % 64 < 64 := Nat.mod_lt _ (by decide)
  unfold placeN
  generalize (h / 64 ^ j) % 64 = s at *
  congr 3
  · omega
  · omega
theorem sub_step (x m s : Nat) : (x &&& (m ||| 2 ^ s)) = (m ||| 2 ^ s) ↔ (x &&& m) = m ∧ x.testBit s = true := by
  constructor
  · intro h
    have hb : ∀ i, (x.testBit i && (m.testBit i || (2 ^ s).testBit i)) = (m.testBit i || (2 ^ s).testBit i) := fun i => by
      have := congrArg (fun z => z.testBit i) h
      simpa [Nat.testBit_and, Nat.testBit_or] using this
    refine ⟨Nat.eq_of_testBit_eq fun i => ?_, ?_⟩
    · have := hb i
      rw [Nat.testBit_and]
      revert this
      cases x.testBit i <;> cases m.testBit i <;> simp
    · have := hb s
      rw [Nat.testBit_two_pow_self] at this
      simpa using this
  · rintro ⟨h1, h2⟩
    refine Nat.eq_of_testBit_eq fun i => ?_
    have hb := congrArg (fun z => z.testBit i) h1
    simp only [Nat.testBit_and] at hb
    rw [Nat.testBit_and, Nat.testBit_or, Nat.testBit_two_pow]
    by_cases e : s = i
    · subst e; simp [h2]
    · rw [decide_eq_false e, Bool.or_false]; exact hb
/-- Are a number's first j bits in a word? -/
def hasJ (x h j : Nat) : Prop := x &&& maskN h j = maskN h j
theorem hasJ_zero (x h : Nat) : hasJ x h 0 := by show x &&& 0 = 0; simp
theorem hasJ_succ (x h j : Nat) : hasJ x h (j + 1) ↔ hasJ x h j ∧ x.testBit ((h / 64 ^ j) % 64) = true := by
  unfold hasJ
  rw [maskN_succ]
  exact sub_step _ _ _
theorem hasJ_less {x h j : Nat} (k : Nat) (hk : j ≤ k) (hh : hasJ x h k) : hasJ x h j := by
  induction k with
  | zero => obtain rfl : j = 0 := by omega
            exact hh
  | succ k ih =>
    rcases (by omega : j = k + 1 ∨ j ≤ k) with e | e
    · subst e; exact hh
    · exact ih e ((hasJ_succ x h k).1 hh).1
theorem has_no {ws : List Nat} {h j k : Nat} (hj : j < k) (hb : (ws.getD (buckN h ws.length) 0).testBit ((h / 64 ^ j) % 64) = false) : hasN ws k h = false := by
  unfold hasN
  rw [beq_eq_false_iff_ne]
  intro he
  have := ((hasJ_succ _ h j).1 (hasJ_less k hj he)).2
  rw [hb] at this
  cases this
theorem has_yes {ws : List Nat} {h k : Nat} (hj : hasJ (ws.getD (buckN h ws.length) 0) h k) : hasN ws k h = true := by
  unfold hasN
  rw [beq_iff_eq]
  exact hj
/-- A word, by its bits. -/
theorem word_step (v i : Nat) : 2 * (v / 2 ^ (i + 1)) + (if v.testBit i then 1 else 0) = v / 2 ^ i := by
  rw [Nat.testBit_eq_decide_div_mod_eq, Nat.pow_succ, ← Nat.div_div_eq_div_mul]
  generalize v / 2 ^ i = z
  by_cases h : z % 2 = 1
  · rw [decide_eq_true h, if_pos rfl]; omega
  · rw [decide_eq_false h]; simp; omega
theorem word_bit (ws : List Nat) (j i : Nat) (hj : j < ws.length) (hi : i < 64) : (bitL ws)[64 * j + i]? = some ((ws.getD j 0).testBit i) := by
  rw [bitL_at _ _ (by omega)]
  congr 3
  · omega
  · omega
/-- How many of the first i are so. -/
def cntB (l : List Bool) : Nat → Nat
  | 0 => 0
  | i + 1 => cntB l i + if l[i]? = some true then 1 else 0
theorem cntB_le (l : List Bool) (i : Nat) : cntB l i ≤ i := by
  induction i with
  | zero => exact Nat.le_refl _
  | succ i ih => show cntB l i + _ ≤ _; split <;> omega
theorem onesN_snoc (n x : Nat) : onesN (n + 1) x = onesN n x + if x.testBit n then 1 else 0 := by
  rw [onesN_add n 1 x, Nat.testBit_eq_decide_div_mod_eq]
  show _ + ((x / 2 ^ n) % 2 + 0) = _
  generalize x / 2 ^ n = z
  by_cases h : z % 2 = 1
  · rw [decide_eq_true h, if_pos rfl]; omega
  · rw [decide_eq_false h]; simp; omega
theorem cntB_word (ws : List Nat) (j i : Nat) (hj : j < ws.length) (hi : i ≤ 64) : cntB (bitL ws) (64 * j + i) = cntB (bitL ws) (64 * j) + onesN i (ws.getD j 0) := by
  induction i with
  | zero => rfl
  | succ i ih =>
    show cntB (bitL ws) (64 * j + i) + (if (bitL ws)[64 * j + i]? = some true then 1 else 0) = _
    rw [ih (by omega), word_bit ws j i hj (by omega), onesN_snoc, Nat.add_assoc]
    cases (ws.getD j 0).testBit i <;> rfl
/-- The ones of the first j words. -/
def onesW (ws : List Nat) : Nat → Nat
  | 0 => 0
  | j + 1 => onesW ws j + onesN 64 (ws.getD j 0)
theorem onesW_is (ws : List Nat) (j : Nat) (hj : j ≤ ws.length) : cntB (bitL ws) (64 * j) = onesW ws j := by
  induction j with
  | zero => rfl
  | succ j ih =>
    show _ = onesW ws j + _
    rw [← ih (by omega), show 64 * (j + 1) = 64 * j + 64 by omega, cntB_word ws j 64 (by omega) (by omega)]
end Go.Proofs.YtpcbnmpfiepaeaaDoor.B18

/- Layer 18: how many bits of a word, and of a filter, are one. No condition. -/
namespace Go.Proofs.YtpcbnmpfiepaeaaDoor
open Go.RowKit
attribute [local go_sem] more_cell more_frozen more_more more_setCell more_of_drew more_of_drewN lt_more le_more past_cell past_cell2 past_frozen past_frozen2 past_setCell past_setCell2 mid_cell mid_frozen mid_setCell
attribute [local go_sem ↓] Go.wp_at_zero Go.wp_at_succ

theorem ofInt_i64 (a : Nat) (ha : a < 18446744073709551616) : (BitVec.ofInt 64 (a : Int)).toNat = a := ofInt_u64 a ha
theorem i64_and127 (a : Nat) (ha : a < 9223372036854775808) : bits .and .i64 (a : Int) 127 = ((a % 128 : Nat) : Int) := by
  show IntKind.i64.wrap ((BitVec.ofInt 64 (a : Int) &&& BitVec.ofInt 64 ((127 : Nat) : Int)).toNat : Int) = _
  rw [BitVec.toNat_and, ofInt_u64 a (by omega), ofInt_u64 127 (by decide), show a &&& 127 = a % 128 from Nat.and_two_pow_sub_one_eq_mod a 7]
  exact IntWalk.i64_in _ (by omega)
theorem wrapN (a : Nat) (h : a < 18446744073709551616) : IntKind.u64.wrap (a : Int) = (a : Int) := by
  rw [wrap_u]
  exact Int.emod_eq_of_lt (by omega) (by omega)
theorem ones64 (x : Nat) (hx : x < 18446744073709551616) (w : World) : Calls Tryd.prog 47 #[.int .u64 x] w fun e w' => e = .returned (.int .i64 (B18.onesN 64 x : Nat)) ∧ w' = w := by
  obtain ⟨a, b, c, y, h1, h2, h3, ha, hb, hc, hy, hv, ho, hle⟩ := B18.ones_all x hx
  unfold B18.p1 at h1
  unfold B18.p2 at h2
  unfold B18.p3 at h3
  rw [show B18.mk 85 8 = 6148914691236517205 from rfl] at h1
  rw [show B18.mk 51 8 = 3689348814741910323 from rfl] at h2
  rw [show B18.mk 15 8 = 1085102592571150095 from rfl] at h3
  generalize B18.onesN 64 x = r at *
  have e1 : IntKind.u64.wrap (bits .and .u64 ((x : Int) / 2) 6148914691236517205 + bits .and .u64 (x : Int) 6148914691236517205) = (a : Int) := by
    have q1 := u64_and_nat (x / 2) 6148914691236517205 (by omega) (by decide)
    have q2 := u64_and_nat x 6148914691236517205 hx (by decide)
    rw [show ((x : Int) / 2) = ((x / 2 : Nat) : Int) by omega]
    rw [show ((6148914691236517205 : Nat) : Int) = 6148914691236517205 from rfl] at q1 q2
    rw [q1, q2, ← Int.natCast_add, h1]
    exact wrapN a ha
  have e2 : IntKind.u64.wrap (bits .and .u64 ((a : Int) / 4) 3689348814741910323 + bits .and .u64 (a : Int) 3689348814741910323) = (b : Int) := by
    have q1 := u64_and_nat (a / 4) 3689348814741910323 (by omega) (by decide)
    have q2 := u64_and_nat a 3689348814741910323 ha (by decide)
    rw [show ((a : Int) / 4) = ((a / 4 : Nat) : Int) by omega]
    rw [show ((3689348814741910323 : Nat) : Int) = 3689348814741910323 from rfl] at q1 q2
    rw [q1, q2, ← Int.natCast_add, h2]
    exact wrapN b (by omega)
  have e3 : bits .and .u64 (IntKind.u64.wrap ((b : Int) / 16 + (b : Int))) 1085102592571150095 = (c : Int) := by
    have q1 := u64_and_nat (b / 16 + b) 1085102592571150095 (by omega) (by decide)
    rw [show ((b : Int) / 16 + (b : Int)) = ((b / 16 + b : Nat) : Int) by omega, wrapN _ (by omega)]
    rw [show ((1085102592571150095 : Nat) : Int) = 1085102592571150095 from rfl] at q1
    rw [q1, h3]
  have e4 : IntKind.u64.wrap ((c : Int) + (c : Int) / 256) = (y : Int) := by
    rw [show ((c : Int) + (c : Int) / 256) = (y : Int) by omega]
    exact wrapN y (by omega)
  obtain ⟨z, hz⟩ : ∃ z, y + y / 65536 = z := ⟨_, rfl⟩
  rw [hz] at hv ho
  have e5 : IntKind.u64.wrap ((y : Int) + (y : Int) / 65536) = (z : Int) := by
    rw [show ((y : Int) + (y : Int) / 65536) = (z : Int) by omega]
    exact wrapN z (by omega)
  obtain ⟨v, hvv⟩ : ∃ v, z + z / 4294967296 = v := ⟨_, rfl⟩
  rw [hvv] at hv ho
  have e6 : IntKind.u64.wrap ((z : Int) + (z : Int) / 4294967296) = (v : Int) := by
    rw [show ((z : Int) + (z : Int) / 4294967296) = (v : Int) by omega]
    exact wrapN v (by omega)
  have e7 : IntKind.i64.wrap (v : Int) = (v : Int) := IntWalk.i64_in _ (by omega)
  have e7' : wrap64 (v : Int) = (v : Int) := IntWalk.wrap64_in _ ⟨by omega, by omega⟩
  have e8 : bits .and .i64 (v : Int) 127 = (r : Int) := by rw [i64_and127 v hv, ho]
  clear h1 h2 h3 ha hb hc hy hz hvv hx ho hv
  go_enter Tryd.func47, Tryd.ntmps47
  go_wp2
  go_ret
  exact ⟨rfl, rfl⟩
end Go.Proofs.YtpcbnmpfiepaeaaDoor

/- Layer 18: how many bits of a filter are one; the document's own word. No condition. -/
namespace Go.Proofs.YtpcbnmpfiepaeaaDoor
open Go.RowKit
attribute [local go_sem] more_cell more_frozen more_more more_setCell more_of_drew more_of_drewN lt_more le_more past_cell past_cell2 past_frozen past_frozen2 past_setCell past_setCell2 mid_cell mid_frozen mid_setCell
attribute [local go_sem ↓] Go.wp_at_zero Go.wp_at_succ

theorem onesN_le (n x : Nat) : B18.onesN n x ≤ n := by
  induction n generalizing x with
  | zero => exact Nat.le_refl _
  | succ n ih => show x % 2 + _ ≤ _; have := ih (x / 2); omega
theorem onesW_succ (ws : List Nat) (j : Nat) : B18.onesW ws (j + 1) = B18.onesW ws j + B18.onesN 64 (ws.getD j 0) := rfl
theorem onesW_zero (ws : List Nat) : B18.onesW ws 0 = 0 := rfl
theorem onesW_le (ws : List Nat) (j : Nat) : B18.onesW ws j ≤ 64 * j := by
  induction j with
  | zero => exact Nat.le_refl _
  | succ j ih => show B18.onesW ws j + B18.onesN 64 _ ≤ _; have := onesN_le 64 (ws.getD j 0); omega
attribute [local irreducible] B18.onesN B18.onesW
def OnesAt (u : World) (ws : List Nat) (T : TypeId) (cs : Array Value) (v i : Value) (wr : World) : Prop := ∃ j : Nat, j ≤ ws.length ∧ i = .int .i64 j ∧ v = .int .i64 ((B18.onesW ws j : Nat) : Int) ∧ Grew u wr ∧ Blok wr u.heap.size T cs
set_option maxHeartbeats 1000000 in
theorem ones_any (ws : List Nat) (k : Int) (n g c : Nat) (hn : ws.length = n) (hl : n ≤ 1000000) (hw : wordsOk ws) (w : World) (hr : URow w (some ⟨g, 0, none⟩) ws) :
    Gives Tryd.prog 31 #[.agg #[.slice (some ⟨g, 0, none⟩) n c, .int .i64 k]] w (.int .i64 (B18.onesW ws n : Nat)) := by
  unfold Gives
  subst hn
  have HR := Lib.hid hr
  have HW := Lib.hid hw
  have HLe := Lib.hid (onesW_le ws)
  obtain ⟨fin, hfin⟩ : ∃ fin, B18.onesW ws ws.length = fin := ⟨_, rfl⟩
  have HF := Lib.hid hfin
  rw [hfin]
  clear hr hw hfin
  go_enter Tryd.func31, Tryd.ntmps31
  go_wp2
  go_loopw [3, 9] (fun v i wr => OnesAt w ws 28 #[.slice (some ⟨g, 0, none⟩) ws.length c, .int .i64 k] v i wr) (fun _ i _ => ws.length - (intOf i).toNat)
  case atStart => exact ⟨0, Nat.zero_le _, rfl, by rw [onesW_zero]; rfl, by (show Grew _ _; repeat (first | exact Grew.refl _ | refine Grew.alloc ?_ _ | refine Grew.drew ?_ | refine Grew.more ?_ _)), Blok.new _ _ _ _ rfl⟩
  case round =>
    obtain ⟨j, hj, rfl, rfl, hg, hb⟩ := hrel
    have HG := Lib.hid hg
    have HB := Lib.hid hb
    clear hg hb
    by_cases h : j < ws.length
    · obtain ⟨hbl, c0⟩ := urow_cell (HR.out.grew HG.out) h rfl
      have hx := HW.out _ (List.getElem_mem h)
      have hgd : ws.getD j 0 = ws[j] := by rw [List.getD_eq_getElem?_getD, List.getElem?_eq_getElem h]; rfl
      have HN : Hid (B18.onesW ws (j + 1) = B18.onesW ws j + B18.onesN 64 ws[j]) := Lib.hid (by rw [onesW_succ, hgd])
      have h1 := HLe.out j
      have h2 := onesN_le 64 ws[j]
      have HC : Hid (∀ W, Calls Tryd.prog 47 #[.int .u64 ws[j]] W fun e w' => e = .returned (.int .i64 (B18.onesN 64 ws[j] : Nat)) ∧ w' = W) := Lib.hid fun W => ones64 ws[j] hx W
      rw [Nat.zero_add] at c0
      clear hgd hx
      generalize ws[j] = x at *
      generalize B18.onesN 64 x = d at *
      generalize B18.onesW ws j = s at *
      go_wp2_with (first | (go_at_call 47; (with_reducible refine (HC.out _).mono ?_); rintro e w2 ⟨rfl, hw⟩; have hw := hw.symm; subst hw))
      exact ⟨⟨j + 1, by omega, by go_num, by rw [HN.out]; go_num, HG.out, HB.out⟩, by simp only [intOf]; omega⟩
    · obtain rfl : j = ws.length := by omega
      rw [HF.out]
      go_wp2
      go_ret
      exact ⟨rfl, HG.out⟩
/-- The document's filter: its truths lie in memory. -/
def bV8 (l : List Bool) : List Value := l.map Value.bool
def BRow (w : World) (A : Option Addr) (l : List Bool) : Prop := Row w A (bV8 l)
theorem BRow.grew {w w' : World} {A : Option Addr} {l : List Bool} (h : BRow w A l) (g : Grew w w') : BRow w' A l := Row.grew h g
theorem bV8_len (l : List Bool) : (bV8 l).length = l.length := by simp [bV8]
theorem bV8_one (l : List Bool) : ∀ u ∈ bV8 l, u.oneCell' = true := by
  intro u hu
  obtain ⟨z, _, rfl⟩ := List.mem_map.1 hu
  rfl
theorem brow_cell {w : World} {b o i : Nat} {t : Bool} {l : List Bool} (h : BRow w (some ⟨b, o, none⟩) l) (hi : l[i]? = some t) : b < w.heap.size ∧ w.cell? ⟨b, o + i, none⟩ = some (.bool t) := by
  have hv : (bV8 l)[i]? = some (.bool t) := by unfold bV8; rw [List.getElem?_map, hi]; rfl
  rcases h with h | ⟨b', o', hA, hb, hc⟩
  · rw [h] at hv
    simp at hv
  · injection hA with hA
    injection hA with e1 e2 _
    subst e1 e2
    exact ⟨hb, hc i _ hv⟩
def WordAt (u : World) (v : Nat) (T : TypeId) (cs : Array Value) (x i : Value) (wr : World) : Prop := ∃ j : Nat, j ≤ 64 ∧ i = .int .i64 ((j : Int) - 1) ∧ x = .int .u64 ((v / 2 ^ j : Nat) : Int) ∧ Grew u wr ∧ Blok wr u.heap.size T cs
end Go.Proofs.YtpcbnmpfiepaeaaDoor

/- Layer 18: the document's own filters: made, put, asked. No condition. -/
namespace Go.Proofs.YtpcbnmpfiepaeaaDoor
open Go.RowKit
attribute [local go_sem] more_cell more_frozen more_more more_setCell more_of_drew more_of_drewN lt_more le_more past_cell past_cell2 past_frozen past_frozen2 past_setCell past_setCell2 mid_cell mid_frozen mid_setCell
attribute [local go_sem ↓] Go.wp_at_zero Go.wp_at_succ

theorem infoInt18 : (Tryd.prog.info? 3).map (fun i => (i.zero, i.size, i.bytes)) = some (some (.int .i64 0), 1, 8) := by kernel_rfl
theorem rbucket_nat (h n b : Nat) (hh : h < 18446744073709551616) (h0 : 0 < n) (hb : buckN h n = b) (w : World) : Calls Tryd.prog 59 #[.int .u64 h, .int .i64 n] w fun e w' => e = .returned (.int .i64 b) ∧ w' = w := by
  have e : bucketI (h : Int) (n : Int) = (b : Int) := by
    unfold bucketI
    rw [if_neg (by omega), ← hb]
    unfold buckN
    simp
  rw [← e]
  exact rbucket_any h n (by unfold uI; omega) w
/-- Places of a number's bits are handed back. -/
def PlF (w : World) (k : Nat) (f : Nat → Nat) (e : Ending) (w' : World) : Prop := ∃ A c, e = .returned (.slice A k c) ∧ Grew w w' ∧ Row w' A (numsL k f) ∧ ∀ p, A = some p → w.heap.size ≤ p.block
def PlAt (w : World) (n h k : Nat) (T : TypeId) (cs : Array Value) (hv v i : Value) (wr : World) : Prop :=
  ∃ (j : Nat) (A : Option Addr) (c : Nat), j ≤ k ∧ i = .int .i64 j ∧ v = .slice A j c ∧ hv = .int .u64 ((h / 64 ^ j : Nat) : Int) ∧ wr.ownsRow (w.heap.size + 1) 3 1 (.slice A j c) j (numsL j (B18.placeN n h)) ∧ Grew w wr ∧ Blok wr w.heap.size T cs
set_option maxHeartbeats 1000000 in
theorem places_any (n h k : Nat) (A : Option Addr) (m c : Nat) (hm : 64 * n = m) (h0 : 0 < n) (hn : n ≤ 10000) (hk : k ≤ 5) (hh : h < 18446744073709551616) (w : World) :
    Calls Tryd.prog 41 #[.agg #[.slice A m c, .int .i64 k], .int .u64 h] w (PlF w k (B18.placeN n h)) := by
  obtain ⟨b, hb⟩ : ∃ b, buckN h n = b := ⟨_, rfl⟩
  have hbn : b < n := by rw [← hb]; exact Nat.mod_lt _ h0
  have HBu : Hid (∀ W, Calls Tryd.prog 59 #[.int .u64 h, .int .i64 n] W fun e w' => e = .returned (.int .i64 b) ∧ w' = W) := Lib.hid fun W => rbucket_nat h n b hh h0 hb W
  have HP : Hid (∀ j, B18.placeN n h j = 64 * b + (h / 64 ^ j) % 64) := Lib.hid fun j => by unfold B18.placeN; rw [hb]
  have hq : (m : Int) / 64 = (n : Int) := by omega
  have hq2 : (m : Int).tdiv 64 = (n : Int) := by rw [Int.tdiv_eq_ediv_of_nonneg (by omega)]; exact hq
  clear hb
  go_enter Tryd.func41, Tryd.ntmps41
  go_wp2_with fail
  refine (HBu.out _).mono ?_
  rintro e w' ⟨rfl, hw⟩
  have hw := hw.symm
  subst hw
  clear hq hq2 HBu
  go_wp2
  go_loopw [1, 5, 7] (fun hv v i wr => PlAt w n h k 37 #[.slice A m c, .int .i64 k] hv v i wr) (fun _ _ i _ => k - (intOf i).toNat)
  case atStart => exact ⟨0, none, 0, Nat.zero_le _, rfl, rfl, by rw [Nat.pow_zero, Nat.div_one], own_none _ _ _ _, by (show Grew _ _; repeat (first | exact Grew.refl _ | refine Grew.alloc ?_ _ | refine Grew.drew ?_ | refine Grew.more ?_ _)), Blok.new _ _ _ _ rfl⟩
  case round =>
    obtain ⟨j, A1, c1, hj, rfl, rfl, rfl, ho, hg, hb⟩ := hrel
    have HO := Lib.hid ho
    have HG := Lib.hid hg
    have HB := Lib.hid hb
    have d1 := hb.cell 1
    have hlt := hb.lt
    simp at d1
    have hsz : w.heap.size + 1 ≤ wr.heap.size := by omega
    clear ho hg hb
    by_cases hjk : j < k
    · have HPj := Lib.hid (HP.out j)
      have hdd : h / 64 ^ (j + 1) = (h / 64 ^ j) / 64 := by rw [Nat.pow_succ, Nat.div_div_eq_div_mul]
      have hq : h / 64 ^ j < 18446744073709551616 := Nat.lt_of_le_of_lt (Nat.div_le_self _ _) hh
      obtain ⟨q, hqq⟩ : ∃ q, h / 64 ^ j = q := ⟨_, rfl⟩
      rw [hqq] at hdd hq HPj
      have HQ := Lib.hid hqq
      have HD := Lib.hid hdd
      have e1 : (q : Int) % 64 = ((q % 64 : Nat) : Int) := by omega
      have e2 : (q : Int).tmod 64 = ((q % 64 : Nat) : Int) := by rw [Int.tmod_eq_emod_of_nonneg (by omega)]; exact e1
      have e3 : (q : Int) / 64 = ((q / 64 : Nat) : Int) := by omega
      have e4 : (q : Int).tdiv 64 = ((q / 64 : Nat) : Int) := by rw [Int.tdiv_eq_ediv_of_nonneg (by omega)]; exact e3
      have hs64 : q % 64 < 64 := Nat.mod_lt _ (by decide)
      rw [hqq]
      clear hqq hdd HP
      generalize q % 64 = s at *
      generalize hq64 : q / 64 = q64 at *
      have HQ64 := Lib.hid hq64
      clear hq64
      have ew : IntKind.i64.wrap (s : Int) = (s : Int) := IntWalk.i64_in _ (by omega)
      have hrow := own_base HO.out
      have ev : ((64 * b + s : Nat) : Int) = 64 * (b : Int) + (s : Int) := by omega
      go_wp2_with (at_builtin; refine wpList_appB rfl (.tmp 20) (.tmp 27) 71 3 1 rfl (w.heap.size + 1) (.int .i64 0) 8 Tryd.underlying71 infoInt18 rfl (by decide) (by decide) _ j (numsL j (B18.placeN n h)) rfl (own_alloc HO.out _) _ 1 1 [.int .i64 (64 * (b : Int) + (s : Int))] rfl rfl (row_one _ _ _ _ rfl) (by simp; rfl) (by omega) (by simp; omega) ?_)
      intro A2 c2 w2 ho2 hgb2
      have HO2 : Hid (w2.ownsRow (w.heap.size + 1) 3 1 (.slice A2 (j + 1) c2) (j + 1) (numsL (j + 1) (B18.placeN n h))) := Lib.hid (by
        rw [← numsL_snoc, HPj.out, ev]
        exact ho2)
      have HB2 := Lib.hid ((HB.out.alloc _).grown hgb2 (fun e => by have := hrow _ e; omega))
      have HG2 := Lib.hid ((HG.out.alloc _).grown hgb2 (fun i hi => by have := hrow i hi; omega))
      clear ho2 hgb2 HO HB HG
      go_wp2
      exact ⟨⟨j + 1, A2, c2, by omega, by go_num, rfl, by rw [HD.out], HO2.out, HG2.out, HB2.out⟩, by simp only [intOf]; omega⟩
    · obtain rfl : j = k := by omega
      go_wp2
      go_ret
      obtain ⟨A', c', h1, h2⟩ := own_row HO.out
      injection h1 with h1 _ h3
      subst h1
      exact ⟨_, _, rfl, HG.out, h2, fun p hp => by have := own_base HO.out p.block (by rw [hp]; rfl); omega⟩
end Go.Proofs.YtpcbnmpfiepaeaaDoor

/- Layer 18: the document's own filters: made. No condition. -/
namespace Go.Proofs.YtpcbnmpfiepaeaaDoor
open Go.RowKit
attribute [local go_sem] more_cell more_frozen more_more more_setCell more_of_drew more_of_drewN lt_more le_more past_cell past_cell2 past_frozen past_frozen2 past_setCell past_setCell2 mid_cell mid_frozen mid_setCell
attribute [local go_sem ↓] Go.wp_at_zero Go.wp_at_succ

theorem infoB8 : (Tryd.prog.info? 4).map (fun i => (i.zero, i.size, i.bytes)) = some (some (.bool false), 1, 1) := by kernel_rfl
theorem mid_clamp (a : Int) (hi : Nat) (_h : 1 ≤ hi) : mid a 1 hi = (clampN a hi : Nat) := by
  unfold mid clampN
  (repeat' split) <;> omega
/-- The document's filter is left. -/
def BFilt (w : World) (l : List Bool) (k : Nat) (e : Ending) (w' : World) : Prop := ∃ g c, e = .returned (.agg #[.slice (some ⟨g, 0, none⟩) l.length c, .int .i64 k]) ∧ Grew w w' ∧ BRow w' (some ⟨g, 0, none⟩) l
theorem made_bools (n : Nat) : (madeCells #[.bool false] n).toList = bV8 (List.replicate n false) := by
  rw [toList_madeCells_one]
  simp [bV8]
set_option maxHeartbeats 1000000 in
set_option maxRecDepth 100000 in
theorem rnew_b (a b : Int) (w : World) : Calls Tryd.prog 23 #[.int .i64 a, .int .i64 b] w (BFilt w (List.replicate (64 * clampN a 4096) false) (clampN b 5)) := by
  have H1 : Hid (∀ W, Calls Tryd.prog 40 #[.int .i64 a, .int .i64 1, .int .i64 4096] W fun e w' => e = .returned (.int .i64 (clampN a 4096 : Nat)) ∧ w' = W) := Lib.hid fun W => by
    have := held_any a 1 4096 W
    rw [show (4096 : Int) = ((4096 : Nat) : Int) from rfl, mid_clamp a 4096 (by decide)] at this
    exact this
  have H2 : Hid (∀ W, Calls Tryd.prog 40 #[.int .i64 b, .int .i64 1, .int .i64 5] W fun e w' => e = .returned (.int .i64 (clampN b 5 : Nat)) ∧ w' = W) := Lib.hid fun W => by
    have := held_any b 1 5 W
    rw [show (5 : Int) = ((5 : Nat) : Int) from rfl, mid_clamp b 5 (by decide)] at this
    exact this
  have hle := (clamp_le a 4096 (by decide)).1
  generalize clampN a 4096 = n at *
  generalize clampN b 5 = k at *
  obtain ⟨m, hm⟩ : ∃ m : Nat, 64 * n = m := ⟨_, rfl⟩
  have hmm : m ≤ 262144 := by omega
  rw [hm]
  have e1 : wrap64 (64 * (n : Int)) = (m : Int) := by rw [IntWalk.wrap64_in _ ⟨by omega, by omega⟩]; omega
  have e2 : IntKind.i64.wrap (64 * (n : Int)) = (m : Int) := by rw [IntWalk.i64_in _ (by omega)]; omega
  have hmk := run_make_row' (P := Tryd.prog) 35 4 (.bool false) 1 Tryd.underlying35 infoB8 rfl .i64 .i64 m (by omega) (by omega)
  go_enter Tryd.func23, Tryd.ntmps23
  go_upto_region 1 with fail
  go_region_held3 (fun _ => True) (trivial)
    (first
      | (go_at_call_of 40 (Value.int .i64 a); (with_reducible refine (H1.out _).mono ?_); rintro e w' ⟨rfl, hw⟩; have hw := hw.symm; subst hw)
      | (go_at_call_of 40 (Value.int .i64 b); (with_reducible refine (H2.out _).mono ?_); rintro e w' ⟨rfl, hw⟩; have hw := hw.symm; subst hw))
  all_goals
    go_wp2
    exact bodyPost_ret (v := .agg #[.slice (some ⟨w.heap.size + 1, 0, none⟩) m m, .int .i64 k]) (by simp [results, Tryd.results23, go_sem]) rfl ⟨w.heap.size + 1, m, by simp, by (show Grew _ _; repeat (first | exact Grew.refl _ | refine Grew.alloc ?_ _ | refine Grew.drew ?_ | refine Grew.more ?_ _)), by
      unfold BRow
      rw [← made_bools]
      exact Row.grew (row_new _ _ _ _ (by simp)) (Grew.refl _).drew⟩
def RAddAt (w : World) (T : TypeId) (ws : List Nat) (h k g c m g2 c2 : Nat) (A : Option Addr) (i : Value) (wr : World) : Prop :=
  ∃ j : Nat, j ≤ k ∧ i = .int .i64 j ∧ wr.ownsRow (w.heap.size + 2) 4 1 (.slice (some ⟨g2, 0, none⟩) m c2) m (bV8 (B18.bitL (addN ws j h))) ∧ Blok wr w.heap.size T #[.slice (some ⟨g, 0, none⟩) m c, .int .i64 k] ∧
    Blok wr (w.heap.size + 1) T #[.slice none 0 0, .int .i64 0] ∧ Grew w wr ∧ Row wr A (numsL k (B18.placeN ws.length h))
theorem row_far {w : World} {A : Option Addr} {xs : List Value} (h : Row w A xs) {g i : Nat} (hn : ∀ a, A = some a → a.block ≠ g) (v : Value) : Row (w.setCell ⟨g, i, none⟩ v) A xs := Row.turns h ((Turns.refl w g).set i v) hn
theorem bV8_set (l : List Bool) (i : Nat) (t : Bool) : (bV8 l).set i (.bool t) = bV8 (l.set i t) := by unfold bV8; rw [List.map_set]
theorem own_more3 {w w' : World} {base : Nat} {e : TypeId} {size n : Nat} {v : Value} {xs : List Value} (h : w.ownsRow base e size v n xs) (g : Grew w w') : w'.ownsRow base e size v n xs := by
  obtain ⟨x, rfl⟩ := g
  exact own_more h x
set_option maxHeartbeats 2000000 in
set_option maxRecDepth 100000 in
theorem radd_b (ws : List Nat) (k h g c m : Nat) (hm : 64 * ws.length = m) (h0 : 0 < ws.length) (hl : ws.length ≤ 10000) (hk : k ≤ 5) (hh : h < 18446744073709551616) (w : World) (hr : BRow w (some ⟨g, 0, none⟩) (B18.bitL ws)) :
    Calls Tryd.prog 25 #[.agg #[.slice (some ⟨g, 0, none⟩) m c, .int .i64 k], .int .u64 h] w (BFilt w (B18.bitL (addN ws k h)) k) := by
  have HR := Lib.hid hr
  have hbl : (bV8 (B18.bitL ws)).length = m := by rw [bV8_len, B18.bitL_len, hm]
  have HBL := Lib.hid hbl
  have HP : Hid (∀ W, Calls Tryd.prog 41 #[.agg #[.slice (some ⟨g, 0, none⟩) m c, .int .i64 k], .int .u64 h] W (PlF W k (B18.placeN ws.length h))) := Lib.hid fun W => places_any ws.length h k _ m c hm h0 hl hk hh W
  have HPl : Hid (∀ j, B18.placeN ws.length h j < m) := Lib.hid fun j => by rw [← hm]; exact B18.place_lt ws h j h0
  have HSucc : Hid (∀ j, B18.bitL (addN ws (j + 1) h) = (B18.bitL (addN ws j h)).set (B18.placeN ws.length h j) true) := Lib.hid fun j => B18.addN_succ ws j h h0
  have HZ := Lib.hid (B18.addN_zero ws h)
  have HL : Hid ((B18.bitL (addN ws k h)).length = m) := Lib.hid (by rw [B18.bitL_len, B18.addN_len', hm])
  have hml : m ≤ 640000 := by omega
  clear hr hbl hm
  go_enter Tryd.func25, Tryd.ntmps25
  go_wp2_with (first
    | (at_builtin; refine wpList_appB rfl (.tmp 8) (.tmp 10) 35 4 1 rfl (w.heap.size + 2) (.bool false) 1 Tryd.underlying35 infoB8 rfl (by decide) (by decide) _ 0 [] rfl (own_empty _ _ _ _ _ (by simp) (by omega)) (some ⟨g, 0, none⟩) m c (bV8 (B18.bitL ws)) rfl (by rw [HBL.out, Nat.mul_one]) (Row.grew HR.out (by (show Grew _ _; repeat (first | exact Grew.refl _ | refine Grew.alloc ?_ _ | refine Grew.drew ?_ | refine Grew.more ?_ _)))) (bV8_one _) (by omega) (by simp) ?_))
  intro A2 c2 w2 ho2 hgb2
  have hm0 : 0 < m := by have := HPl.out 0; omega
  obtain ⟨g2, cap, hv, hg2a, hg2b⟩ := World.ownsRow.form ho2 hm0
  injection hv with hv1 hv2 hv3
  subst hv1 hv3
  have HO2 : Hid (w2.ownsRow (w.heap.size + 2) 4 1 (.slice (some ⟨g2, 0, none⟩) m c2) m (bV8 (B18.bitL ws))) := Lib.hid ho2
  have hrow : ∀ i, (Value.slice (some ⟨w.heap.size + 1 + 1, 0, none⟩) 0 0).ownBlock = some i → w.heap.size + 2 ≤ i := fun i hi => by
    simp [Value.ownBlock] at hi
    omega
  have hB0 : Blok w2 w.heap.size 37 #[.slice (some ⟨g, 0, none⟩) m c, .int .i64 k] := (((Blok.new _ _ _ _ rfl).alloc _).alloc _).grown hgb2 (fun e => by have := hrow _ e; omega)
  have hB1 : Blok w2 (w.heap.size + 1) 37 #[.slice none 0 0, .int .i64 0] := ((Blok.new _ _ _ _ (by simp)).alloc _).grown hgb2 (fun e => by have := hrow _ e; omega)
  have hG2 : Grew w w2 := Grew.grown (by (show Grew _ _; repeat (first | exact Grew.refl _ | refine Grew.alloc ?_ _ | refine Grew.drew ?_ | refine Grew.more ?_ _))) hgb2 (fun i hi => by have := hrow i hi; omega)
  have HB0 := Lib.hid hB0
  have HB1 := Lib.hid hB1
  have HG2 := Lib.hid hG2
  have d0 := hB0.cell 0
  have d1 := hB0.cell 1
  have hlt := hB0.lt
  simp at d0 d1
  clear ho2 hgb2 hB0 hB1 hG2 hv2 hm0 HBL
  go_wp2_with fail
  refine (HP.out _).mono ?_
  rintro e w3 ⟨A3, c3, rfl, hg3, hr3, hf3⟩
  have HG3 := Lib.hid (HG2.out.trans hg3)
  have HB0 := Lib.hid (HB0.out.grew hg3)
  have HB1 := Lib.hid (HB1.out.grew hg3)
  have HO3 := Lib.hid (own_more3 HO2.out hg3)
  have hne : ∀ a, A3 = some a → a.block ≠ g2 := fun a ha => by have := hf3 a ha; omega
  have HNe := Lib.hid hne
  have HR3 := Lib.hid hr3
  have hg22 : w.heap.size + 2 ≤ g2 := hg2a
  clear hg3 hr3 hf3 hne d0 d1 hlt HP HG2 HO2
  go_wp2
  go_loopw [7] (fun i wr => RAddAt w 37 ws h k g c m g2 c2 A3 i wr) (fun i _ => k - (intOf i).toNat)
  case atStart => exact ⟨0, Nat.zero_le _, rfl, by rw [HZ.out]; exact HO3.out, HB0.out, HB1.out, HG3.out, HR3.out⟩
  case round =>
    clear HO3 HB0 HB1 HG3 HR3
    obtain ⟨j, hj, rfl, ho, hb0, hb1, hg, hr⟩ := hrel
    have HO := Lib.hid ho
    have HB0 := Lib.hid hb0
    have HB1 := Lib.hid hb1
    have HG := Lib.hid hg
    have HRr := Lib.hid hr
    clear ho hb0 hb1 hg hr
    by_cases hjk : j < k
    · obtain ⟨pb, po, rfl, hpb, p0⟩ := HRr.out.nums hjk
      have hpm := HPl.out j
      have hs := (HO.out.stored (B18.placeN ws.length h j) (.bool true)).1
      rw [bV8_set, ← HSucc.out j] at hs
      have HOn := Lib.hid hs
      have HB0n := Lib.hid (HB0.out.far (p := ⟨g2, B18.placeN ws.length h j, none⟩) (by show w.heap.size ≠ g2; omega) (.bool true))
      have HB1n := Lib.hid (HB1.out.far (p := ⟨g2, B18.placeN ws.length h j, none⟩) (by show w.heap.size + 1 ≠ g2; omega) (.bool true))
      have HGn := Lib.hid (HG.out.setCell (a := ⟨g2, B18.placeN ws.length h j, none⟩) (by show w.heap.size ≤ g2; omega) (.bool true))
      have HRn := Lib.hid (row_far (i := B18.placeN ws.length h j) HRr.out HNe.out (.bool true))
      have z0 := HO.out.frozenAt (B18.placeN ws.length h j)
      have hq : ∃ v, wr.cell? ⟨g2, B18.placeN ws.length h j, none⟩ = some v := by
        have hle : (bV8 (B18.bitL (addN ws j h))).length = m := by rw [HO.out.1, Nat.mul_one]
        exact ⟨_, (HO.out.cellAt (B18.placeN ws.length h j) (by omega)).trans (List.getElem?_eq_getElem (by omega))⟩
      obtain ⟨q, q0⟩ := hq
      have hgl := (World.ownsRow.lt HO.out g2 rfl).2
      clear hs HO HB0 HB1 HG HRr HSucc HPl
      generalize B18.placeN ws.length h j = p at *
      go_wp2
      exact ⟨⟨j + 1, by omega, by go_num, HOn.out, HB0n.out, HB1n.out, HGn.out, HRn.out⟩, by simp only [intOf]; omega⟩
    · obtain rfl : j = k := by omega
      have d00 := HB0.out.cell 0
      have d01 := HB0.out.cell 1
      have z00 := HB0.out.thaw 0
      have d10 := HB1.out.cell 0
      have d11 := HB1.out.cell 1
      have z10 := HB1.out.thaw 0
      have z11 := HB1.out.thaw 1
      have hlt0 := HB0.out.lt
      have hlt1 := HB1.out.lt
      simp at d00 d01 d10 d11
      have hBf := ((HB1.out.far (p := ⟨w.heap.size, 0, none⟩) (by show w.heap.size + 1 ≠ w.heap.size; omega) (.slice (some ⟨g2, 0, none⟩) m c2)).set 0 (.slice (some ⟨g2, 0, none⟩) m c2)).set 1 (.int .i64 j)
      have hOf := ownsRow_setCell_below (ownsRow_setCell_below (ownsRow_setCell_below HO.out (a := ⟨w.heap.size, 0, none⟩) (by show w.heap.size < w.heap.size + 2; omega) (.slice (some ⟨g2, 0, none⟩) m c2)) (a := ⟨w.heap.size + 1, 0, none⟩) (by show w.heap.size + 1 < w.heap.size + 2; omega) (.slice (some ⟨g2, 0, none⟩) m c2)) (a := ⟨w.heap.size + 1, 1, none⟩) (by show w.heap.size + 1 < w.heap.size + 2; omega) (.int .i64 j)
      have hGf := ((HG.out.setCell (a := ⟨w.heap.size, 0, none⟩) (Nat.le_refl _) (.slice (some ⟨g2, 0, none⟩) m c2)).setCell (a := ⟨w.heap.size + 1, 0, none⟩) (by show w.heap.size ≤ w.heap.size + 1; omega) (.slice (some ⟨g2, 0, none⟩) m c2)).setCell (a := ⟨w.heap.size + 1, 1, none⟩) (by show w.heap.size ≤ w.heap.size + 1; omega) (.int .i64 j)
      have HOf := Lib.hid hOf
      have HGf := Lib.hid hGf
      have HBf := Lib.hid hBf
      clear hBf hOf hGf HO HG HB0 HB1 HRr HSucc HPl HZ
      go_wp2
      clear d00 d01 d10 d11 z00 z10 z11 hlt0 hlt1
      generalize (((wr.setCell ⟨w.heap.size, 0, none⟩ (.slice (some ⟨g2, 0, none⟩) m c2)).setCell ⟨w.heap.size + 1, 0, none⟩ (.slice (some ⟨g2, 0, none⟩) m c2)).setCell ⟨w.heap.size + 1, 1, none⟩ (.int .i64 j)) = Wf at *
      have r0 := HBf.out.cell 0
      have r1 := HBf.out.cell 1
      simp at r0 r1
      refine bodyPost_ret (v := .agg #[.slice (some ⟨g2, 0, none⟩) m c2, .int .i64 j]) (by simp [results, Tryd.results25, go_sem, r0, r1]) rfl ⟨g2, c2, by rw [HL.out], HGf.out, ?_⟩
      obtain ⟨A', c', h1, h2⟩ := own_row HOf.out
      injection h1 with h1 _ _
      subst h1
      exact h2
end Go.Proofs.YtpcbnmpfiepaeaaDoor

/- Layer 18: the document's own filters: asked. No condition. -/
namespace Go.Proofs.YtpcbnmpfiepaeaaDoor
open Go.RowKit
attribute [local go_sem] more_cell more_frozen more_more more_setCell more_of_drew more_of_drewN lt_more le_more past_cell past_cell2 past_frozen past_frozen2 past_setCell past_setCell2 mid_cell mid_frozen mid_setCell
attribute [local go_sem ↓] Go.wp_at_zero Go.wp_at_succ

def RHasAt (w : World) (T : TypeId) (x h k : Nat) (cs : Array Value) (A : Option Addr) (n : Nat) (i : Value) (wr : World) : Prop :=
  ∃ j : Nat, j ≤ k ∧ i = .int .i64 j ∧ Blok wr w.heap.size T cs ∧ Grew w wr ∧ Row wr A (numsL k (B18.placeN n h)) ∧ B18.hasJ x h j
set_option maxHeartbeats 2000000 in
set_option maxRecDepth 100000 in
theorem rhas_b (ws : List Nat) (k h g c m : Nat) (hm : 64 * ws.length = m) (h0 : 0 < ws.length) (hl : ws.length ≤ 10000) (hk : k ≤ 5) (hh : h < 18446744073709551616) (t : Bool) (ht : hasN ws k h = t) (w : World) (hr : BRow w (some ⟨g, 0, none⟩) (B18.bitL ws)) :
    Gives Tryd.prog 30 #[.agg #[.slice (some ⟨g, 0, none⟩) m c, .int .i64 k], .int .u64 h] w (.bool t) := by
  unfold Gives
  have HR := Lib.hid hr
  have HP : Hid (∀ W, Calls Tryd.prog 41 #[.agg #[.slice (some ⟨g, 0, none⟩) m c, .int .i64 k], .int .u64 h] W (PlF W k (B18.placeN ws.length h))) := Lib.hid fun W => places_any ws.length h k _ m c hm h0 hl hk hh W
  have HPl : Hid (∀ j, B18.placeN ws.length h j < m) := Lib.hid fun j => by rw [← hm]; exact B18.place_lt ws h j h0
  obtain ⟨x, hx⟩ : ∃ x, ws.getD (buckN h ws.length) 0 = x := ⟨_, rfl⟩
  have HBit : Hid (∀ j, (B18.bitL ws)[B18.placeN ws.length h j]? = some (x.testBit ((h / 64 ^ j) % 64))) := Lib.hid fun j => by rw [B18.place_bit ws h j h0, hx]
  have HNo : Hid (∀ j, j < k → x.testBit ((h / 64 ^ j) % 64) = false → t = false) := Lib.hid fun j hj hb => by rw [← ht]; exact B18.has_no hj (by rw [hx]; exact hb)
  have HYes : Hid (B18.hasJ x h k → t = true) := Lib.hid fun hj => by rw [← ht]; exact B18.has_yes (by rw [hx]; exact hj)
  have hml : m ≤ 640000 := by omega
  clear hr hm ht hx
  go_enter Tryd.func30, Tryd.ntmps30
  go_wp2_with fail
  refine (HP.out _).mono ?_
  rintro e w3 ⟨A3, c3, rfl, hg3, hr3, hf3⟩
  have HB0 := Lib.hid ((Blok.new w 37 #[.slice (some ⟨g, 0, none⟩) m c, .int .i64 k] _ rfl).grew hg3)
  have HG3 := Lib.hid (((Grew.refl w).alloc (.cells #[.slice (some ⟨g, 0, none⟩) m c, .int .i64 k] 37)).trans hg3)
  have HR3 := Lib.hid hr3
  clear hg3 hr3 hf3 HP
  go_wp2
  go_loopw [6] (fun i wr => RHasAt w 37 x h k #[.slice (some ⟨g, 0, none⟩) m c, .int .i64 k] A3 ws.length i wr) (fun i _ => k - (intOf i).toNat)
  case atStart => exact ⟨0, Nat.zero_le _, rfl, HB0.out, HG3.out, HR3.out, B18.hasJ_zero x h⟩
  case round =>
    clear HB0 HG3 HR3
    obtain ⟨j, hj, rfl, hb, hg, hr, hhj⟩ := hrel
    have HB := Lib.hid hb
    have HG := Lib.hid hg
    have HRr := Lib.hid hr
    have HJ := Lib.hid hhj
    have d0 := hb.cell 0
    have hlt := hb.lt
    simp at d0
    clear hb hg hr hhj
    by_cases hjk : j < k
    · obtain ⟨pb, po, rfl, hpb, p0⟩ := HRr.out.nums hjk
      have hpm := HPl.out j
      obtain ⟨hgl, q0⟩ := brow_cell (HR.out.grew HG.out) (HBit.out j)
      rw [Nat.zero_add] at q0
      have HN := Lib.hid (HNo.out j hjk)
      have HS : Hid (x.testBit ((h / 64 ^ j) % 64) = true → B18.hasJ x h (j + 1)) := Lib.hid fun hb => (B18.hasJ_succ x h j).2 ⟨HJ.out, hb⟩
      clear HNo HBit HPl HJ
      generalize x.testBit ((h / 64 ^ j) % 64) = tb at *
      obtain ⟨p, hp⟩ : ∃ p, B18.placeN ws.length h j = p := ⟨_, rfl⟩
      rw [hp] at hpm q0 p0
      clear hp
      cases tb
      · obtain rfl := HN.out rfl
        go_wp2
        refine wp_region_more (by kernel_rfl) (by kernel_rfl) ?_
        repeat (go_big_quiet_step ((fail)))
        refine wpQuiet_nil ?_
        rintro _ ⟨z, rfl⟩
        go_wp2
        go_ret
        exact ⟨rfl, HG.out.more _⟩
      · go_wp2
        refine wp_region_more (by kernel_rfl) (by kernel_rfl) ?_
        repeat (go_big_quiet_step ((fail)))
        refine wpQuiet_nil ?_
        rintro _ ⟨z, rfl⟩
        go_wp2
        exact ⟨⟨j + 1, by omega, by go_num, HB.out.more _, HG.out.more _, HRr.out.more _, HS.out (by first | rfl | trivial)⟩, by simp only [intOf]; omega⟩
    · obtain rfl : j = k := by omega
      have htt := HYes.out HJ.out
      subst htt
      go_wp2
      go_ret
      exact ⟨rfl, HG.out⟩
end Go.Proofs.YtpcbnmpfiepaeaaDoor

/- Layer 20: the bits of keys, as the document sets them. Condition: rows that lie in memory that is there; keys that are not much; no more than 10000 words. -/
namespace Go.Proofs.YtpcbnmpfiepaeaaDoor
open Go.RowKit
attribute [local go_sem] more_cell more_frozen more_more more_setCell more_of_drew more_of_drewN lt_more le_more past_cell past_cell2 past_frozen past_frozen2 past_setCell past_setCell2 mid_cell mid_frozen mid_setCell
attribute [local go_sem ↓] Go.wp_at_zero Go.wp_at_succ
attribute [local irreducible] hashN

theorem brow_ne20 {w : World} {g b : Nat} {t : TypeId} {A : Option Addr} {n c : Nat} {v : Value} {l : List Bool} (h : BRow w (some ⟨g, 0, none⟩) l) (h0 : 0 < l.length) (hb : Blok w b t #[.slice A n c, v]) : g ≠ b := by
  intro e
  subst e
  have h1 := row_cells h 0 (.bool l[0]) (by unfold bV8; rw [List.getElem?_map, List.getElem?_eq_getElem h0]; rfl)
  have h2 := hb.cell 0
  rw [show (⟨g, 0 + 0, none⟩ : Addr) = ⟨g, 0, none⟩ from rfl] at h1
  rw [h2] at h1
  simp at h1
def BtAt (w : World) (bs gF gZ n k : Nat) (nums : List Nat) (L : Option Addr) (m cL : Nat) (M : List Value) (i : Value) (wr : World) : Prop :=
  ∃ (j g c : Nat), j ≤ nums.length ∧ i = .int .i64 j ∧ Blok wr gF 37 #[.slice (some ⟨g, 0, none⟩) (64 * n) c, .int .i64 k] ∧ Blok wr gZ 37 #[.slice none 0 0, .int .i64 0] ∧ Grew w wr ∧ wr.ownsRow bs 23 1 (.slice L m cL) m M ∧ BRow wr (some ⟨g, 0, none⟩) (B18.bitL (addW (List.replicate n 0) k (nums.take j)))
def BitsF (w : World) (n k : Nat) (nums : List Nat) (en : Ending) (w' : World) : Prop := ∃ g c, en = .returned (.agg #[.slice (some ⟨g, 0, none⟩) (64 * n) c, .int .i64 k]) ∧ Grew w w' ∧ BRow w' (some ⟨g, 0, none⟩) (B18.bitL (addW (List.replicate n 0) k nums))
theorem cntW_nums (seed : Int) (keys : List (List Vl)) : (numsK seed keys).length = cntW keys := by rw [numsK_len]; rfl
set_option maxHeartbeats 8000000 in
set_option maxRecDepth 100000 in
theorem rbits_any (seed words nb : Int) (keys : List (List Vl)) (hk : KeysOk keys) (A : Option Addr) (kA : Nat) (w : World) (ra : RwsR (PRow w) A keys) :
    Calls Tryd.prog 8 #[.int .i64 seed, .int .i64 words, .int .i64 nb, .slice A keys.length kA] w (BitsF w (clampN words 4096) (clampN nb 5) (numsK seed keys)) := by
  have hn := clamp_le words 4096 (by decide)
  have hkb := clamp_le nb 5 (by decide)
  have hkl := hk.1
  have HN : Hid (∀ W, Calls Tryd.prog 23 #[.int .i64 words, .int .i64 nb] W fun e w' => ∃ g c, e = .returned (.agg #[.slice (some ⟨g, 0, none⟩) (64 * clampN words 4096) c, .int .i64 (clampN nb 5 : Nat)]) ∧ Grew W w' ∧ BRow w' (some ⟨g, 0, none⟩) (B18.bitL (List.replicate (clampN words 4096) 0))) := Lib.hid fun W => by
    refine (rnew_b words nb W).mono ?_
    rintro e w' ⟨g, c, rfl, h1, h2⟩
    refine ⟨g, c, by rw [List.length_replicate], h1, by rw [B18.bitL_rep]; exact h2⟩
  have HW : Hid (∀ W, Grew w W → Calls Tryd.prog 24 #[.slice A keys.length kA] W fun e w' => ∃ A k css, e = .returned (.slice A (cntW keys) k) ∧ Grew W w' ∧ cntW keys ≤ k ∧ w'.ownsRow W.heap.size 23 1 (.slice A (cntW keys) k) (cntW keys) css.flatten ∧ ListR (RwR (PRow w)) 1 (keys.filter wholeV) css) := Lib.hid fun W hW => wholesR_any w keys (by omega) (fun r hr => Nat.le_trans (hk.2 r hr).1 (by decide)) A kA W hW ra
  have HRo : Hid (∀ r ∈ keys.filter wholeV, ∀ W T c, VlsR (PRow W) T r → Gives Tryd.prog 26 #[.int .i64 seed, .slice T r.length c] W (.int .u64 (hashN seed r : Nat))) := Lib.hid fun r hr W T c hv => by
    obtain ⟨l1, l2, l3⟩ := hk.2 r (List.mem_filter.1 hr).1
    rw [(hashN_is seed r).1]
    exact rrow17_any seed r l1 l2 l3 T c W hv
  have hcl := cntW_le keys
  have hln := cntW_nums seed keys
  have hfl : (keys.filter wholeV).length = cntW keys := rfl
  have HAd : Hid (∀ W (ws : List Nat) (h g c : Nat), ws.length = clampN words 4096 → h < 18446744073709551616 → BRow W (some ⟨g, 0, none⟩) (B18.bitL ws) → Calls Tryd.prog 25 #[.agg #[.slice (some ⟨g, 0, none⟩) (64 * clampN words 4096) c, .int .i64 (clampN nb 5 : Nat)], .int .u64 h] W fun e w' => ∃ g' c', e = .returned (.agg #[.slice (some ⟨g', 0, none⟩) (64 * clampN words 4096) c', .int .i64 (clampN nb 5 : Nat)]) ∧ Grew W w' ∧ BRow w' (some ⟨g', 0, none⟩) (B18.bitL (addN ws (clampN nb 5) h))) := Lib.hid fun W ws h g c hws hh hr => by
    refine (radd_b ws (clampN nb 5) h g c _ (by rw [hws]) (by omega) (by omega) hkb.1 hh W hr).mono ?_
    rintro e w' ⟨g', c', rfl, h1, h2⟩
    exact ⟨g', c', by rw [B18.bitL_len, addN_len, hws], h1, h2⟩
  have HNum : Hid (∀ j (h : j < (keys.filter wholeV).length), ∃ h2 : j < (numsK seed keys).length, (numsK seed keys)[j] = hashN seed (keys.filter wholeV)[j]) := Lib.hid fun j h => ⟨by rw [hln]; exact h, by simp [numsK]⟩
  have HHl : Hid (∀ r, hashN seed r < 18446744073709551616) := Lib.hid fun r => (hashN_is seed r).2
  have HLe : Hid (∀ l : List Nat, (addW (List.replicate (clampN words 4096) 0) (clampN nb 5) l).length = clampN words 4096) := Lib.hid fun l => by rw [addW_len, List.length_replicate]
  clear ra hk
  generalize keys.filter wholeV = ls at *
  generalize numsK seed keys = nums at *
  generalize clampN words 4096 = n at *
  generalize clampN nb 5 = kk at *
  generalize cntW keys = m at *
  go_enter Tryd.func8, Tryd.ntmps8
  go_wp2_with fail
  obtain ⟨u0, hu0⟩ : ∃ u0, w.alloc (.cells #[.slice none 0 0, .int .i64 0] 37) = u0 := ⟨_, rfl⟩
  have hgu : Grew w u0 := by rw [← hu0]; exact (Grew.refl _).alloc _
  have hz0 : Blok u0 w.heap.size 37 #[.slice none 0 0, .int .i64 0] := by rw [← hu0]; exact Blok.new _ _ _ _ rfl
  obtain ⟨g8, hg8⟩ : ∃ g8, w.heap.size = g8 := ⟨_, rfl⟩
  have H8 : Hid (w.heap.size ≤ g8) := Lib.hid (Nat.le_of_eq hg8)
  rw [hg8] at hz0 ⊢
  rw [hu0]
  have HZ0 := Lib.hid hz0
  have HGu := Lib.hid hgu
  clear hu0 hgu hz0 hg8
  refine (HN.out u0).mono ?_
  rintro e w1 ⟨g1, c1, rfl, hg1, hb1⟩
  obtain ⟨w2, hw2⟩ : ∃ w2, w1.alloc (.cells #[.slice (some ⟨g1, 0, none⟩) (64 * n) c1, .int .i64 kk] 37) = w2 := ⟨_, rfl⟩
  have hg2 : Grew w1 w2 := by rw [← hw2]; exact (Grew.refl _).alloc _
  have hf2 : Blok w2 w1.heap.size 37 #[.slice (some ⟨g1, 0, none⟩) (64 * n) c1, .int .i64 kk] := by rw [← hw2]; exact Blok.new _ _ _ _ rfl
  have h98 : g8 < w1.heap.size := (HZ0.out.grew hg1).lt
  obtain ⟨g9, hg9⟩ : ∃ g9, w1.heap.size = g9 := ⟨_, rfl⟩
  rw [hg9] at hf2 h98
  have HF2 := Lib.hid hf2
  have HZ2 := Lib.hid (HZ0.out.grew (hg1.trans hg2))
  have HG2 := Lib.hid (HGu.out.trans (hg1.trans hg2))
  have HB2 := Lib.hid (BRow.grew hb1 hg2)
  have Hw2 := Lib.hid hw2
  have Hg9 := Lib.hid hg9
  have H98 : Hid (g8 ≠ g9) := Lib.hid (by omega)
  have H9w : Hid (w.heap.size ≤ g9) := Lib.hid (by have := H8.out; omega)
  have HWh := Lib.hid (HW.out w2 HG2.out)
  clear hg1 hb1 hg2 hf2 hw2 hg9 h98 HZ0 HGu HN HW
  go_wp2_with fail
  rw [Hw2.out, Hg9.out]
  clear Hw2 Hg9
  refine HWh.out.mono ?_
  rintro e w3 ⟨L, cL, css, rfl, hg3, hcL, hoL, hlL⟩
  have HG3 := Lib.hid (HG2.out.trans hg3)
  have HF3 := Lib.hid (HF2.out.grew hg3)
  have HZ3 := Lib.hid (HZ2.out.grew hg3)
  have HB3 := Lib.hid (BRow.grew HB2.out hg3)
  have HOL := Lib.hid hoL
  have HLs := Lib.hid hlL
  obtain ⟨bs, hbs⟩ : ∃ bs, w2.heap.size = bs := ⟨_, rfl⟩
  rw [hbs] at HOL
  have hb9 : g9 < bs := by rw [← hbs]; exact HF2.out.lt
  have hb8 : g8 < bs := by rw [← hbs]; exact HZ2.out.lt
  obtain ⟨M, hM⟩ : ∃ M, css.flatten = M := ⟨_, rfl⟩
  rw [hM] at HOL
  have HMf := Lib.hid hM
  have HB9 := Lib.hid hb9
  have HB8 := Lib.hid hb8
  clear hg3 hoL hlL hbs hb9 hb8 hM HG2 HF2 HZ2 HB2 HWh
  go_wp2
  go_loopw [11] (fun i wr => BtAt w bs g9 g8 n kk nums L m cL M i wr) (fun i _ => m - (intOf i).toNat)
  case atStart => exact ⟨0, g1, c1, Nat.zero_le _, rfl, HF3.out, HZ3.out, HG3.out, HOL.out, by rw [List.take_zero]; exact HB3.out⟩
  case round =>
    clear HF3 HZ3 HB3 HG3 HOL
    obtain ⟨j, g, c, hj, rfl, hf, hz, hg, ho, hb⟩ := hrel
    have HF := Lib.hid hf
    have HZ := Lib.hid hz
    have HG := Lib.hid hg
    have HO := Lib.hid ho
    have HB := Lib.hid hb
    clear hf hz hg ho hb
    rw [hln] at hj
    by_cases h : j < m
    · have hji : (j : Int) < (m : Int) := by omega
      have e0 : decide ((j : Int) < (m : Int)) = true := decide_eq_true hji
      have hjl : j < ls.length := by omega
      have hrw : RwsR (PRow wr) L ls := rws_own (by rw [HMf.out]; exact HO.out) HLs.out HG.out
      obtain ⟨kx, ko, PA, ka, rfl, hkx, c0, hka, hva⟩ := rwsR_at hrw hjl
      obtain ⟨h2, hnj⟩ := HNum.out j hjl
      have HTk := Lib.hid (addW_take (List.replicate n 0) kk nums j h2)
      rw [hnj] at HTk
      have HC0 : Hid (∀ W, Grew wr W → kx < W.heap.size ∧ W.cell? ⟨kx, ko + j, none⟩ = some (.slice PA ls[j].length ka)) := Lib.hid fun W hW => ⟨Nat.lt_of_lt_of_le hkx hW.size, (hW.cell (a := ⟨kx, ko + j, none⟩) hkx).trans c0⟩
      have HF0 : Hid (∀ W, Grew wr W → g9 < W.heap.size ∧ W.cell? ⟨g9, 0, none⟩ = some (.slice (some ⟨g, 0, none⟩) (64 * n) c) ∧ W.cell? ⟨g9, 1, none⟩ = some (.int .i64 kk)) := Lib.hid fun W hW => ⟨(HF.out.grew hW).lt, (HF.out.grew hW).cell 0, (HF.out.grew hW).cell 1⟩
      have HRj : Hid (∀ W, Grew wr W → Gives Tryd.prog 26 #[.int .i64 seed, .slice PA ls[j].length ka] W (.int .u64 (hashN seed ls[j] : Nat))) := Lib.hid fun W hW => HRo.out _ (List.getElem_mem hjl) W PA ka (hva.grew hW)
      have hh := HHl.out ls[j]
      have HAj : Hid (∀ W, Grew wr W → Calls Tryd.prog 25 #[.agg #[.slice (some ⟨g, 0, none⟩) (64 * n) c, .int .i64 kk], .int .u64 (hashN seed ls[j] : Nat)] W fun e w' => ∃ g' c', e = .returned (.agg #[.slice (some ⟨g', 0, none⟩) (64 * n) c', .int .i64 kk]) ∧ Grew W w' ∧ BRow w' (some ⟨g', 0, none⟩) (B18.bitL (addW (List.replicate n 0) kk (nums.take (j + 1))))) := Lib.hid fun W hW => by
        rw [HTk.out]
        exact HAd.out W _ _ g c (HLe.out _) hh (BRow.grew HB.out hW)
      have HLn : Hid (0 < (B18.bitL (addW (List.replicate n 0) kk (nums.take (j + 1)))).length) := Lib.hid (by rw [B18.bitL_len, HLe.out]; omega)
      clear hrw hkx c0 hka hva h2 hnj hh HTk
      obtain ⟨nx, hnx⟩ : ∃ nx, B18.bitL (addW (List.replicate n 0) kk (nums.take (j + 1))) = nx := ⟨_, rfl⟩
      rw [hnx] at HAj HLn
      have HNx := Lib.hid hnx
      clear hnx
      generalize hashN seed ls[j] = hx at *
      generalize ls[j] = r at *
      go_upto_region 6 with fail
      refine wp_region_last (fun W => Grew wr W) 8 rfl (by kernel_rfl) ?_
      refine last_take 0 (v := ?_) rfl (by kernel_rfl) (by kernel_rfl) (by kernel_rfl) (by kernel_rfl) (fun _ _ _ h => h) (by rfl) ?_ (Grew.refl wr).drew ?_
      rotate_left
      · (intro W hW; obtain ⟨hl0, q0, q1⟩ := HF0.out W hW; go_simp; with_reducible rfl)
      refine last_norm (a' := ?_) ?_ ?_
      rotate_left
      · (go_simp; with_reducible rfl)
      refine last_take 1 (v := ?_) rfl (by kernel_rfl) (by kernel_rfl) (by kernel_rfl) (by kernel_rfl) (fun _ _ _ h => h) (by rfl) ?_ (Grew.refl wr).drew ?_
      rotate_left
      · (intro W hW; go_simp; with_reducible rfl)
      refine last_take 2 (v := ?_) rfl (by kernel_rfl) (by kernel_rfl) (by kernel_rfl) (by kernel_rfl) (fun _ _ _ h => h) (by rfl) ?_ (Grew.refl wr).drew ?_
      rotate_left
      · (intro W hW; go_simp; with_reducible rfl)
      refine last_take 3 (v := ?_) rfl (by kernel_rfl) (by kernel_rfl) (by kernel_rfl) (by kernel_rfl) (fun _ _ _ h => h) (by rfl) ?_ (Grew.refl wr).drew ?_
      rotate_left
      · (intro W hW; go_simp; with_reducible rfl)
      refine last_take 4 (v := ?_) rfl (by kernel_rfl) (by kernel_rfl) (by kernel_rfl) (by kernel_rfl) (fun _ _ _ h => h) (by rfl) ?_ (Grew.refl wr).drew ?_
      rotate_left
      · (intro W hW; go_simp; with_reducible rfl)
      refine last_norm (a' := ?_) ?_ ?_
      rotate_left
      · (go_simp; with_reducible rfl)
      refine last_take 5 (v := ?_) rfl (by kernel_rfl) (by kernel_rfl) (by kernel_rfl) (by kernel_rfl) (fun _ _ _ h => h) (by rfl) ?_ (Grew.refl wr).drew ?_
      rotate_left
      · (intro W hW; obtain ⟨hl0, q0⟩ := HC0.out W hW; go_simp; with_reducible rfl)
      refine last_norm (a' := ?_) ?_ ?_
      rotate_left
      · (go_simp; with_reducible rfl)
      refine last_call 6 (by kernel_rfl) (by kernel_rfl) rfl (by rfl) (fun K hK => ?_)
      go_simp
      go_wp2_with (go_at_call 26; (with_reducible refine (HRj.out _ ((Grew.refl wr).drew)).grows.mono ?_); rintro e w5 ⟨rfl, hg5⟩; have HG5 := Lib.hid (show Grew wr w5 from ((Grew.refl wr).drew).trans hg5); clear hg5)
      refine hK.out _ _ HG5.out ?_
      clear hK K
      refine last_call 7 (by kernel_rfl) (by kernel_rfl) rfl (by rfl) (fun K hK => ?_)
      go_simp
      go_wp2_with (go_at_call 25; refine (HAj.out _ HG5.out).mono ?_; rintro e w6 ⟨g', c', rfl, hg6, hb6⟩; have HG6 := Lib.hid (HG5.out.trans hg6); have HB6 := Lib.hid hb6; clear hg6 hb6; go_wp2_with fail)
      refine hK.out _ _ HG6.out ?_
      clear hK K
      have hf6 := HF.out.grew HG6.out
      have hz6 := HZ.out.grew HG6.out
      have m0 := hf6.cell 0
      have m1 := hf6.cell 1
      simp at m0 m1
      have x0 := hf6.thaw 0
      have x1 := hf6.thaw 1
      have hfl := hf6.lt
      have hne := brow_ne20 HB6.out HLn.out hf6
      have HX : Hid (BtAt w bs g9 g8 n kk nums (some ⟨kx, ko, none⟩) m cL M (.int .i64 ((j : Int) + 1)) ((w6.setCell ⟨g9, 0, none⟩ (.slice (some ⟨g', 0, none⟩) (64 * n) c')).setCell ⟨g9, 1, none⟩ (.int .i64 kk))) := Lib.hid (by
        refine ⟨j + 1, g', c', by omega, by go_num, (hf6.set 0 _).set 1 _, (hz6.far (p := ⟨g9, 0, none⟩) H98.out _).far (p := ⟨g9, 1, none⟩) H98.out _, Grew.setCell (Grew.setCell (HG.out.trans HG6.out) H9w.out _) H9w.out _, ownsRow_setCell_below (ownsRow_setCell_below (own_thus20 HO.out HG6.out) (a := ⟨g9, 0, none⟩) HB9.out _) (a := ⟨g9, 1, none⟩) HB9.out _, ?_⟩
        have f0 : ∀ {w' : World} {p : Nat} {v : Value}, BRow w' (some ⟨g', 0, none⟩) nx → BRow (w'.setCell ⟨g9, p, none⟩ v) (some ⟨g', 0, none⟩) nx := fun h => Row.turns h ((Turns.refl _ _).set _ _) (fun a ha => by injection ha with ha; subst ha; exact hne)
        rw [HNx.out]
        exact f0 (f0 HB6.out))
      clear hf6 hz6 hne HF HZ HG HO HB HB6 HG6 HG5 HC0 HF0 HRj HAj HLn
      refine last_last (by kernel_rfl) (by kernel_rfl) rfl (by rfl) (fun K hK => ?_)
      go_simp
      go_wp2_with fail
      refine hK.out _ _ ?_
      clear hK K
      go_wp2
      exact ⟨HX.out, by simp only [intOf]; omega⟩
    · obtain rfl : j = m := by omega
      have e0 : decide ((j : Int) < (j : Int)) = false := decide_eq_false (by omega)
      have ht : nums.take j = nums := List.take_of_length_le (by omega)
      rw [ht] at HB
      have HLn : Hid (0 < (B18.bitL (addW (List.replicate n 0) kk nums)).length) := Lib.hid (by rw [B18.bitL_len, HLe.out]; omega)
      have HP : Hid (∀ W g c, Grew w W → BRow W (some ⟨g, 0, none⟩) (B18.bitL (addW (List.replicate n 0) kk nums)) → BitsF w n kk nums (.returned (.agg #[.slice (some ⟨g, 0, none⟩) (64 * n) c, .int .i64 kk])) W) := Lib.hid fun W g c h1 h2 => ⟨g, c, rfl, h1, h2⟩
      generalize B18.bitL (addW (List.replicate n 0) kk nums) = nx at *
      have hf6 := HF.out
      have hz6 := HZ.out
      have q0 := hf6.cell 0
      have q1 := hf6.cell 1
      have m0 := hz6.cell 0
      have m1 := hz6.cell 1
      simp at q0 q1 m0 m1
      have x0 := hz6.thaw 0
      have x1 := hz6.thaw 1
      have hfl := hf6.lt
      have hzl := hz6.lt
      have hne := brow_ne20 HB.out HLn.out hz6
      have hb7 : BRow ((wr.setCell ⟨g8, 0, none⟩ (.slice (some ⟨g, 0, none⟩) (64 * n) c)).setCell ⟨g8, 1, none⟩ (.int .i64 kk)) (some ⟨g, 0, none⟩) nx := by
        have f0 : ∀ {w' : World} {p : Nat} {v : Value}, BRow w' (some ⟨g, 0, none⟩) nx → BRow (w'.setCell ⟨g8, p, none⟩ v) (some ⟨g, 0, none⟩) nx := fun h => Row.turns h ((Turns.refl _ _).set _ _) (fun a ha => by injection ha with ha; subst ha; exact hne)
        exact f0 (f0 HB.out)
      have HPost := Lib.hid (HP.out _ g c (Grew.setCell (Grew.setCell HG.out (a := ⟨g8, 0, none⟩) H8.out (.slice (some ⟨g, 0, none⟩) (64 * n) c)) (a := ⟨g8, 1, none⟩) H8.out (.int .i64 kk)) hb7)
      have HZ7 := Lib.hid ((hz6.set 0 (.slice (some ⟨g, 0, none⟩) (64 * n) c)).set 1 (.int .i64 kk))
      clear hf6 hz6 hne hb7 HF HZ HG HO HB HLn HP
      go_wp2
      have r0 := HZ7.out.cell 0
      have r1 := HZ7.out.cell 1
      simp at r0 r1
      exact bodyPost_ret (v := .agg #[.slice (some ⟨g, 0, none⟩) (64 * n) c, .int .i64 kk]) (by simp [results, Tryd.results8, go_sem, r0, r1]) rfl HPost.out
end Go.Proofs.YtpcbnmpfiepaeaaDoor

/- Layer 20: how many bits of a filter are set. Condition: rows that lie in memory that is there. -/
namespace Go.Proofs.YtpcbnmpfiepaeaaDoor
open Go.RowKit
attribute [local go_sem] more_cell more_frozen more_more more_setCell more_of_drew more_of_drewN lt_more le_more past_cell past_cell2 past_frozen past_frozen2 past_setCell past_setCell2 mid_cell mid_frozen mid_setCell
attribute [local go_sem ↓] Go.wp_at_zero Go.wp_at_succ

set_option maxHeartbeats 2000000 in
set_option maxRecDepth 100000 in
theorem sones_any (ws : List Nat) (k : Int) (n g c : Nat) (S0 : Option Addr) (m d : Nat) (seed cnt : Int) (hn : ws.length = n) (hl : n ≤ 1000000) (hw : wordsOk ws) (w : World) (hr : URow w (some ⟨g, 0, none⟩) ws) :
    Gives Tryd.prog 13 #[.agg #[.slice (some ⟨g, 0, none⟩) n c, .int .i64 k, .slice S0 m d, .int .i64 seed, .int .i64 cnt]] w (.int .i64 (B18.onesW ws n : Nat)) := by
  have HO : Hid (∀ W, Grew w W → Gives Tryd.prog 31 #[.agg #[.slice (some ⟨g, 0, none⟩) n c, .int .i64 k]] W (.int .i64 (B18.onesW ws n : Nat))) := Lib.hid fun W hW => ones_any ws k n g c hn hl hw W (Row.grew hr hW)
  have HGa : Hid (Grew w (w.alloc (.cells #[.slice (some ⟨g, 0, none⟩) n c, .int .i64 k, .slice S0 m d, .int .i64 seed, .int .i64 cnt] 32))) := Lib.hid ((Grew.refl w).alloc _)
  clear hr hw hn
  generalize B18.onesW ws n = x at *
  unfold Gives
  go_enter Tryd.func13, Tryd.ntmps13
  go_wp2_with fail
  (with_reducible refine (HO.out _ HGa.out).grows.mono ?_)
  rintro e w1 ⟨rfl, hg1⟩
  have HG1 := Lib.hid (HGa.out.trans hg1)
  clear hg1 HO HGa
  go_wp2
  go_ret
  exact ⟨rfl, HG1.out⟩
end Go.Proofs.YtpcbnmpfiepaeaaDoor

/- Layer 19: the document's own ends of values. Condition: texts that fit into memory. -/
namespace Go.Proofs.YtpcbnmpfiepaeaaDoor
open Go.RowKit
attribute [local go_sem] more_cell more_frozen more_more more_setCell more_of_drew more_of_drewN lt_more le_more past_cell past_cell2 past_frozen past_frozen2 past_setCell past_setCell2 mid_cell mid_frozen mid_setCell
attribute [local go_sem ↓] Go.wp_at_zero Go.wp_at_succ

theorem union_null (a : S) (hn : a.whole = 0 → a.low = zeroV ∧ a.high = zeroV) : unionS a ⟨zeroV, zeroV, 0, 1⟩ = ⟨a.low, a.high, a.whole, a.nulls + 1⟩ := by
  unfold unionS
  simp only
  by_cases h : a.whole = 0
  · obtain ⟨h1, h2⟩ := hn h
    rw [if_pos (Or.inl h), if_pos (Or.inl h), h1, h2, Int.add_zero]
  · rw [if_neg (by omega), if_neg (by omega), Int.add_zero]
theorem union_one (a : S) (v : V) : unionS a ⟨v, v, 1, 0⟩ = ⟨if a.whole = 0 ∨ ord v a.low < 0 then v else a.low, if a.whole = 0 ∨ 0 < ord v a.high then v else a.high, a.whole + 1, a.nulls⟩ := by
  unfold unionS
  simp
def EndsAt (w : World) (T : TypeId) (l : List V) (sv nv i : Value) (wr : World) : Prop :=
  ∃ (j : Nat) (x : Xs) (sb nb : Bool), j ≤ l.length ∧ i = .int .i64 j ∧ sv = .bool sb ∧ nv = .bool nb ∧ decide (0 < (addS zeroS (l.take j)).whole) = sb ∧ decide (0 < (addS zeroS (l.take j)).nulls) = nb ∧
    wr = more ((((w.alloc (.cells #[.int .i64 0, .int .i64 0, .string ⟨#[]⟩] T)).alloc (.cells #[.int .i64 0, .int .i64 0, .string ⟨#[]⟩] T)).alloc (.cells #[.int .i64 (addS zeroS (l.take j)).low.k, .int .i64 (addS zeroS (l.take j)).low.i, .string (addS zeroS (l.take j)).low.s] T)).alloc (.cells #[.int .i64 (addS zeroS (l.take j)).high.k, .int .i64 (addS zeroS (l.take j)).high.i, .string (addS zeroS (l.take j)).high.s] T)) x
theorem rorder_to (k i : Int) (s : ByteArray) (k' i' : Int) (s' : ByteArray) (x : Int) (hs : s.size ≤ maxLen) (hx : ordV k i s k' i' s' = x) (w : World) :
    Gives Tryd.prog 46 #[.agg #[.int .i64 k, .int .i64 i, .string s], .agg #[.int .i64 k', .int .i64 i', .string s']] w (.int .i64 x) := by
  subst hx
  exact rorder_any _ _ _ _ _ _ hs _
set_option maxHeartbeats 4000000 in
set_option maxRecDepth 100000 in
theorem ends_val (l : List V) (A : Option Addr) (c : Nat) (hl : l.length ≤ 1000000) (hs : ∀ v ∈ l, v.s.size ≤ maxLen) (w : World) (hr : VRow w A l) (s : S) (hS : addS zeroS l = s) :
    Gives Tryd.prog 45 #[.slice A l.length c] w (.tuple #[va s.low, va s.high, .bool (decide (0 < s.whole)), .bool (decide (0 < s.nulls))]) := by
  unfold Gives
  have HR := Lib.hid hr
  have HZ := Lib.hid hs
  have HS0 := Lib.hid hS
  clear hr hs hS
  go_enter Tryd.func45, Tryd.ntmps45
  go_wp2
  go_loopw [8, 9, 10] (fun sv nv i wr => EndsAt w 46 l sv nv i wr) (fun _ _ i _ => l.length - (intOf i).toNat)
  case atStart => exact ⟨0, ⟨#[], w.drawn⟩, false, false, Nat.zero_le _, rfl, rfl, rfl, rfl, rfl, (more_self _).symm⟩
  case round =>
    obtain ⟨j, x, sb, nb, hj, rfl, rfl, rfl, hsb, hnb, rfl⟩ := hrel
    by_cases h : j < l.length
    · obtain ⟨b, o, rfl⟩ := vrow_some HR.out h
      obtain ⟨hb, c0, c1, c2⟩ := vrow_cells HR.out h rfl
      have HT := Lib.hid (addS_take zeroS l j h)
      have hI := Is.of (l.take j)
      have hz := HZ.out l[j] (List.getElem_mem h)
      have hw0 : 0 ≤ (addS zeroS (l.take j)).whole := by have := hI.whole; omega
      have hn0 : 0 ≤ (addS zeroS (l.take j)).nulls := by have := hI.nulls; have := nn_le (l.take j); omega
      have HN := Lib.hid hI.none
      clear hI
      have hb1 : b < w.heap.size + 1 := by omega
      have hb2 : b < w.heap.size + 1 + 1 := by omega
      have hb3 : b < w.heap.size + 1 + 1 + 1 := by omega
      have hb4 : b < w.heap.size + 1 + 1 + 1 + 1 := by omega
      generalize l[j] = v at *
      generalize addS zeroS (l.take j) = t at *
      obtain ⟨vk, vi, vs⟩ := v
      obtain ⟨⟨lk, li, ls⟩, ⟨hk, hi, hh⟩, wh, nu⟩ := t
      simp only at *
      have HZ2 := Lib.hid hz
      clear hz
      by_cases hv : vk = 0
      · subst hv
        have e1 : unionS ⟨⟨lk, li, ls⟩, ⟨hk, hi, hh⟩, wh, nu⟩ (ofS ⟨0, vi, vs⟩) = ⟨⟨lk, li, ls⟩, ⟨hk, hi, hh⟩, wh, nu + 1⟩ := union_null ⟨⟨lk, li, ls⟩, ⟨hk, hi, hh⟩, wh, nu⟩ HN.out
        have HT2 := Lib.hid (HT.out.trans e1)
        have HSB := Lib.hid hsb
        clear HT e1 hsb hnb
        go_wp2
        refine ⟨⟨j + 1, _, sb, true, by omega, by go_num, rfl, rfl, by rw [HT2.out]; exact HSB.out, by rw [HT2.out]; exact decide_eq_true (by show 0 < nu + 1; omega), by rw [HT2.out]⟩, by simp only [intOf]; omega⟩
      · have hvb : (vk == 0) = false := by rw [beq_eq_false_iff_ne]; exact hv
        have e0 : ofS ⟨vk, vi, vs⟩ = ⟨⟨vk, vi, vs⟩, ⟨vk, vi, vs⟩, 1, 0⟩ := if_neg hv
        have HNB := Lib.hid hnb
        clear hnb hv HN
        cases sb
        · have h0 : wh = 0 := by have := of_decide_eq_false hsb; omega
          have e1 : unionS ⟨⟨lk, li, ls⟩, ⟨hk, hi, hh⟩, wh, nu⟩ (ofS ⟨vk, vi, vs⟩) = ⟨⟨vk, vi, vs⟩, ⟨vk, vi, vs⟩, wh + 1, nu⟩ := by
            rw [e0, union_one]
            simp only
            rw [if_pos (Or.inl h0), if_pos (Or.inl h0)]
          have HT2 := Lib.hid (HT.out.trans e1)
          clear HT e0 e1 h0 hsb
          go_wp2
          refine wp_region_more (by kernel_rfl) (by kernel_rfl) ?_
          repeat (go_big_quiet_step ((fail)))
          refine wpQuiet_nil ?_
          rintro _ ⟨z, rfl⟩
          go_wp2
          refine wp_region_more (by kernel_rfl) (by kernel_rfl) ?_
          repeat (go_big_quiet_step ((fail)))
          refine wpQuiet_nil ?_
          rintro _ ⟨z, rfl⟩
          go_wp2
          refine ⟨⟨j + 1, _, true, nb, by omega, by go_num, rfl, rfl, by rw [HT2.out]; exact decide_eq_true (by show 0 < wh + 1; omega), by rw [HT2.out]; exact HNB.out, by rw [HT2.out]⟩, by simp only [intOf]; omega⟩
        · have h0 : 0 < wh := of_decide_eq_true hsb
          obtain ⟨p, hp⟩ : ∃ p, ordV vk vi vs lk li ls = p := ⟨_, rfl⟩
          obtain ⟨q, hq⟩ : ∃ q, ordV vk vi vs hk hi hh = q := ⟨_, rfl⟩
          have e1 : unionS ⟨⟨lk, li, ls⟩, ⟨hk, hi, hh⟩, wh, nu⟩ (ofS ⟨vk, vi, vs⟩) = ⟨if p < 0 then ⟨vk, vi, vs⟩ else ⟨lk, li, ls⟩, if 0 < q then ⟨vk, vi, vs⟩ else ⟨hk, hi, hh⟩, wh + 1, nu⟩ := by
            rw [e0, union_one]
            unfold ord
            simp only [hp, hq]
            simp only [show ¬ wh = 0 by omega, false_or]
          have HO1 : Hid (∀ W, Gives Tryd.prog 46 #[.agg #[.int .i64 vk, .int .i64 vi, .string vs], .agg #[.int .i64 lk, .int .i64 li, .string ls]] W (.int .i64 p)) := Lib.hid fun W => rorder_to _ _ _ _ _ _ _ HZ2.out hp W
          have HO2 : Hid (∀ W, Gives Tryd.prog 46 #[.agg #[.int .i64 vk, .int .i64 vi, .string vs], .agg #[.int .i64 hk, .int .i64 hi, .string hh]] W (.int .i64 q)) := Lib.hid fun W => rorder_to _ _ _ _ _ _ _ HZ2.out hq W
          clear hsb hp hq e0
          by_cases p0 : p < 0 <;> by_cases q0 : 0 < q
          · have e2 : unionS ⟨⟨lk, li, ls⟩, ⟨hk, hi, hh⟩, wh, nu⟩ (ofS ⟨vk, vi, vs⟩) = ⟨⟨vk, vi, vs⟩, ⟨vk, vi, vs⟩, wh + 1, nu⟩ := by rw [e1, if_pos p0, if_pos q0]
            have HT2 := Lib.hid (HT.out.trans e2)
            clear HT e1 e2
            go_wp2
            refine wp_region_more (by kernel_rfl) (by kernel_rfl) ?_
            repeat (go_big_quiet_step ((first | (go_at_call_of 46 (Value.agg #[Value.int .i64 lk, Value.int .i64 li, Value.string ls]); exact (HO1.out _).within) | (go_at_call_of 46 (Value.agg #[Value.int .i64 lk, Value.int .i64 li, Value.string ls]); exact (HO1.out _).inside) | (go_at_call_of 46 (Value.agg #[Value.int .i64 hk, Value.int .i64 hi, Value.string hh]); exact (HO2.out _).within) | (go_at_call_of 46 (Value.agg #[Value.int .i64 hk, Value.int .i64 hi, Value.string hh]); exact (HO2.out _).inside))))
            refine wpQuiet_nil ?_
            rintro _ ⟨z, rfl⟩
            go_wp2
            refine wp_region_more (by kernel_rfl) (by kernel_rfl) ?_
            repeat (go_big_quiet_step ((first | (go_at_call_of 46 (Value.agg #[Value.int .i64 lk, Value.int .i64 li, Value.string ls]); exact (HO1.out _).within) | (go_at_call_of 46 (Value.agg #[Value.int .i64 lk, Value.int .i64 li, Value.string ls]); exact (HO1.out _).inside) | (go_at_call_of 46 (Value.agg #[Value.int .i64 hk, Value.int .i64 hi, Value.string hh]); exact (HO2.out _).within) | (go_at_call_of 46 (Value.agg #[Value.int .i64 hk, Value.int .i64 hi, Value.string hh]); exact (HO2.out _).inside))))
            refine wpQuiet_nil ?_
            rintro _ ⟨z, rfl⟩
            go_wp2
            refine ⟨⟨j + 1, _, true, nb, by omega, by go_num, rfl, rfl, by rw [HT2.out]; exact decide_eq_true (by show 0 < wh + 1; omega), by rw [HT2.out]; exact HNB.out, by rw [HT2.out]⟩, by simp only [intOf]; omega⟩
          · have e2 : unionS ⟨⟨lk, li, ls⟩, ⟨hk, hi, hh⟩, wh, nu⟩ (ofS ⟨vk, vi, vs⟩) = ⟨⟨vk, vi, vs⟩, ⟨hk, hi, hh⟩, wh + 1, nu⟩ := by rw [e1, if_pos p0, if_neg q0]
            have HT2 := Lib.hid (HT.out.trans e2)
            clear HT e1 e2
            go_wp2
            refine wp_region_more (by kernel_rfl) (by kernel_rfl) ?_
            repeat (go_big_quiet_step ((first | (go_at_call_of 46 (Value.agg #[Value.int .i64 lk, Value.int .i64 li, Value.string ls]); exact (HO1.out _).within) | (go_at_call_of 46 (Value.agg #[Value.int .i64 lk, Value.int .i64 li, Value.string ls]); exact (HO1.out _).inside) | (go_at_call_of 46 (Value.agg #[Value.int .i64 hk, Value.int .i64 hi, Value.string hh]); exact (HO2.out _).within) | (go_at_call_of 46 (Value.agg #[Value.int .i64 hk, Value.int .i64 hi, Value.string hh]); exact (HO2.out _).inside))))
            refine wpQuiet_nil ?_
            rintro _ ⟨z, rfl⟩
            go_wp2
            refine wp_region_more (by kernel_rfl) (by kernel_rfl) ?_
            repeat (go_big_quiet_step ((first | (go_at_call_of 46 (Value.agg #[Value.int .i64 lk, Value.int .i64 li, Value.string ls]); exact (HO1.out _).within) | (go_at_call_of 46 (Value.agg #[Value.int .i64 lk, Value.int .i64 li, Value.string ls]); exact (HO1.out _).inside) | (go_at_call_of 46 (Value.agg #[Value.int .i64 hk, Value.int .i64 hi, Value.string hh]); exact (HO2.out _).within) | (go_at_call_of 46 (Value.agg #[Value.int .i64 hk, Value.int .i64 hi, Value.string hh]); exact (HO2.out _).inside))))
            refine wpQuiet_nil ?_
            rintro _ ⟨z, rfl⟩
            go_wp2
            refine ⟨⟨j + 1, _, true, nb, by omega, by go_num, rfl, rfl, by rw [HT2.out]; exact decide_eq_true (by show 0 < wh + 1; omega), by rw [HT2.out]; exact HNB.out, by rw [HT2.out]⟩, by simp only [intOf]; omega⟩
          · have e2 : unionS ⟨⟨lk, li, ls⟩, ⟨hk, hi, hh⟩, wh, nu⟩ (ofS ⟨vk, vi, vs⟩) = ⟨⟨lk, li, ls⟩, ⟨vk, vi, vs⟩, wh + 1, nu⟩ := by rw [e1, if_neg p0, if_pos q0]
            have HT2 := Lib.hid (HT.out.trans e2)
            clear HT e1 e2
            go_wp2
            refine wp_region_more (by kernel_rfl) (by kernel_rfl) ?_
            repeat (go_big_quiet_step ((first | (go_at_call_of 46 (Value.agg #[Value.int .i64 lk, Value.int .i64 li, Value.string ls]); exact (HO1.out _).within) | (go_at_call_of 46 (Value.agg #[Value.int .i64 lk, Value.int .i64 li, Value.string ls]); exact (HO1.out _).inside) | (go_at_call_of 46 (Value.agg #[Value.int .i64 hk, Value.int .i64 hi, Value.string hh]); exact (HO2.out _).within) | (go_at_call_of 46 (Value.agg #[Value.int .i64 hk, Value.int .i64 hi, Value.string hh]); exact (HO2.out _).inside))))
            refine wpQuiet_nil ?_
            rintro _ ⟨z, rfl⟩
            go_wp2
            refine wp_region_more (by kernel_rfl) (by kernel_rfl) ?_
            repeat (go_big_quiet_step ((first | (go_at_call_of 46 (Value.agg #[Value.int .i64 lk, Value.int .i64 li, Value.string ls]); exact (HO1.out _).within) | (go_at_call_of 46 (Value.agg #[Value.int .i64 lk, Value.int .i64 li, Value.string ls]); exact (HO1.out _).inside) | (go_at_call_of 46 (Value.agg #[Value.int .i64 hk, Value.int .i64 hi, Value.string hh]); exact (HO2.out _).within) | (go_at_call_of 46 (Value.agg #[Value.int .i64 hk, Value.int .i64 hi, Value.string hh]); exact (HO2.out _).inside))))
            refine wpQuiet_nil ?_
            rintro _ ⟨z, rfl⟩
            go_wp2
            refine ⟨⟨j + 1, _, true, nb, by omega, by go_num, rfl, rfl, by rw [HT2.out]; exact decide_eq_true (by show 0 < wh + 1; omega), by rw [HT2.out]; exact HNB.out, by rw [HT2.out]⟩, by simp only [intOf]; omega⟩
          · have e2 : unionS ⟨⟨lk, li, ls⟩, ⟨hk, hi, hh⟩, wh, nu⟩ (ofS ⟨vk, vi, vs⟩) = ⟨⟨lk, li, ls⟩, ⟨hk, hi, hh⟩, wh + 1, nu⟩ := by rw [e1, if_neg p0, if_neg q0]
            have HT2 := Lib.hid (HT.out.trans e2)
            clear HT e1 e2
            go_wp2
            refine wp_region_more (by kernel_rfl) (by kernel_rfl) ?_
            repeat (go_big_quiet_step ((first | (go_at_call_of 46 (Value.agg #[Value.int .i64 lk, Value.int .i64 li, Value.string ls]); exact (HO1.out _).within) | (go_at_call_of 46 (Value.agg #[Value.int .i64 lk, Value.int .i64 li, Value.string ls]); exact (HO1.out _).inside) | (go_at_call_of 46 (Value.agg #[Value.int .i64 hk, Value.int .i64 hi, Value.string hh]); exact (HO2.out _).within) | (go_at_call_of 46 (Value.agg #[Value.int .i64 hk, Value.int .i64 hi, Value.string hh]); exact (HO2.out _).inside))))
            refine wpQuiet_nil ?_
            rintro _ ⟨z, rfl⟩
            go_wp2
            refine wp_region_more (by kernel_rfl) (by kernel_rfl) ?_
            repeat (go_big_quiet_step ((first | (go_at_call_of 46 (Value.agg #[Value.int .i64 lk, Value.int .i64 li, Value.string ls]); exact (HO1.out _).within) | (go_at_call_of 46 (Value.agg #[Value.int .i64 lk, Value.int .i64 li, Value.string ls]); exact (HO1.out _).inside) | (go_at_call_of 46 (Value.agg #[Value.int .i64 hk, Value.int .i64 hi, Value.string hh]); exact (HO2.out _).within) | (go_at_call_of 46 (Value.agg #[Value.int .i64 hk, Value.int .i64 hi, Value.string hh]); exact (HO2.out _).inside))))
            refine wpQuiet_nil ?_
            rintro _ ⟨z, rfl⟩
            go_wp2
            refine ⟨⟨j + 1, _, true, nb, by omega, by go_num, rfl, rfl, by rw [HT2.out]; exact decide_eq_true (by show 0 < wh + 1; omega), by rw [HT2.out]; exact HNB.out, by rw [HT2.out]⟩, by simp only [intOf]; omega⟩
    · obtain rfl : j = l.length := by omega
      rw [List.take_length, HS0.out] at hsb hnb ⊢
      subst hsb hnb
      obtain ⟨⟨lk, li, ls⟩, ⟨hk, hi, hh⟩, wh, nu⟩ := s
      go_wp2
      go_region
      all_goals
        go_wp2
        exact bodyPost_ret (v := .tuple #[.agg #[.int .i64 lk, .int .i64 li, .string ls], .agg #[.int .i64 hk, .int .i64 hi, .string hh], .bool (decide (0 < wh)), .bool (decide (0 < nu))]) (by simp [results, Tryd.results45, go_sem]) rfl ⟨rfl, by (show Grew _ _; repeat (first | exact Grew.refl _ | refine Grew.alloc ?_ _ | refine Grew.drew ?_ | refine Grew.more ?_ _))⟩
end Go.Proofs.YtpcbnmpfiepaeaaDoor

/- Layer 19: may a value be among others: the document's own answer. Condition: texts that fit into memory. -/
namespace Go.Proofs.YtpcbnmpfiepaeaaDoor
open Go.RowKit
attribute [local go_sem] more_cell more_frozen more_more more_setCell more_of_drew more_of_drewN lt_more le_more past_cell past_cell2 past_frozen past_frozen2 past_setCell past_setCell2 mid_cell mid_frozen mid_setCell
attribute [local go_sem ↓] Go.wp_at_zero Go.wp_at_succ

theorem mid_cell2 (w : World) (x y : Xs) (o p : Obj) (n i : Nat) (h : n < w.heap.size) : (more (((more w x).alloc o).alloc p) y).cell? ⟨n, i, none⟩ = w.cell? ⟨n, i, none⟩ := by
  rw [more_cell _ _ _ (by rw [World.size_alloc, World.size_alloc, more_size]; show n < _; omega), past_cell2 _ _ _ _ _ _ h]
attribute [local go_sem] mid_cell2
set_option maxHeartbeats 4000000 in
theorem rhas_to (l : List V) (A : Option Addr) (n c : Nat) (hn : l.length = n) (hl : n ≤ 1000000) (hs : ∀ v ∈ l, v.s.size ≤ maxLen) (v : V) (hz : v.s.size ≤ maxLen) (s : S) (hS : addS zeroS l = s) (t : Bool) (ht : hasS s v = t) (w : World) (hr : VRow w A l) :
    Gives Tryd.prog 29 #[.slice A n c, va v] w (.bool t) := by
  unfold Gives
  subst hn ht
  have hI := Is.of l
  rw [hS] at hI
  have HL : Hid (0 < s.whole → s.low.s.size ≤ maxLen) := Lib.hid fun h => hs _ (List.mem_filter.1 (hI.low h).1).1
  have HR := Lib.hid hr
  obtain ⟨⟨lk, li, ls⟩, ⟨hk, hi, hh⟩, wh, nu⟩ := s
  obtain ⟨k, i, x⟩ := v
  have HE : Hid (∀ W, VRow W A l → Gives Tryd.prog 45 #[.slice A l.length c] W (.tuple #[.agg #[.int .i64 lk, .int .i64 li, .string ls], .agg #[.int .i64 hk, .int .i64 hi, .string hh], .bool (decide (0 < wh)), .bool (decide (0 < nu))])) := Lib.hid fun W hW => ends_val l A c hl hs W hW _ hS
  clear hI hr hs hS
  show Calls Tryd.prog 29 #[.slice A l.length c, .agg #[.int .i64 k, .int .i64 i, .string x]] w _
  by_cases h : k = 0
  · have hb : (k == 0) = true := by rw [beq_iff_eq]; exact h
    have e : hasS ⟨⟨lk, li, ls⟩, ⟨hk, hi, hh⟩, wh, nu⟩ ⟨k, i, x⟩ = decide (0 < nu) := if_pos h
    rw [e]
    clear h e
    go_enter Tryd.func29, Tryd.ntmps29
    go_wp2_with (first | (go_at_call 45; refine (HE.out _ (by exact HR.out.grew (by (show Grew _ _; repeat (first | exact Grew.refl _ | refine Grew.alloc ?_ _ | refine Grew.drew ?_ | refine Grew.more ?_ _))))).mono ?_; rintro e w' ⟨rfl, x, rfl⟩))
    go_ret
    exact ⟨rfl, by (show Grew _ _; repeat (first | exact Grew.refl _ | refine Grew.alloc ?_ _ | refine Grew.drew ?_ | refine Grew.more ?_ _))⟩
  · have hb : (k == 0) = false := by rw [beq_eq_false_iff_ne]; exact h
    have e : hasS ⟨⟨lk, li, ls⟩, ⟨hk, hi, hh⟩, wh, nu⟩ ⟨k, i, x⟩ = decide (0 < wh ∧ 0 ≤ ord ⟨k, i, x⟩ ⟨lk, li, ls⟩ ∧ ord ⟨k, i, x⟩ ⟨hk, hi, hh⟩ ≤ 0) := if_neg h
    rw [e]
    clear h e
    have ha := ord_anti ⟨k, i, x⟩ ⟨lk, li, ls⟩
    obtain ⟨p, hp⟩ : ∃ p, ord ⟨lk, li, ls⟩ ⟨k, i, x⟩ = p := ⟨_, rfl⟩
    obtain ⟨q, hq⟩ : ∃ q, ord ⟨k, i, x⟩ ⟨hk, hi, hh⟩ = q := ⟨_, rfl⟩
    rw [ha, hp, hq]
    by_cases hw : 0 < wh
    · have HO1 : Hid (∀ W, Gives Tryd.prog 46 #[.agg #[.int .i64 lk, .int .i64 li, .string ls], .agg #[.int .i64 k, .int .i64 i, .string x]] W (.int .i64 p)) := Lib.hid fun W => rorder_to _ _ _ _ _ _ _ (HL.out hw) hp W
      have HO2 : Hid (∀ W, Gives Tryd.prog 46 #[.agg #[.int .i64 k, .int .i64 i, .string x], .agg #[.int .i64 hk, .int .i64 hi, .string hh]] W (.int .i64 q)) := Lib.hid fun W => rorder_to _ _ _ _ _ _ _ hz hq W
      have hd : decide (0 < wh) = true := decide_eq_true hw
      clear ha hp hq HL hz
      rcases (by omega : 0 < p ∨ (p ≤ 0 ∧ 0 < q) ∨ (p ≤ 0 ∧ q ≤ 0)) with h1 | ⟨h1, h2⟩ | ⟨h1, h2⟩
      rotate_right
      · rw [decide_eq_true (show 0 < wh ∧ 0 ≤ -p ∧ q ≤ 0 by omega)]
        go_enter Tryd.func29, Tryd.ntmps29
        go_wp2_with (first | (go_at_call 45; refine (HE.out _ (by exact HR.out.grew (by (show Grew _ _; repeat (first | exact Grew.refl _ | refine Grew.alloc ?_ _ | refine Grew.drew ?_ | refine Grew.more ?_ _))))).mono ?_; rintro e w' ⟨rfl, x, rfl⟩) | (go_at_call_of 46 (Value.agg #[Value.int .i64 lk, Value.int .i64 li, Value.string ls]); refine (HO1.out _).mono ?_; rintro e w' ⟨rfl, x1, rfl⟩) | (go_at_call_of 46 (Value.agg #[Value.int .i64 hk, Value.int .i64 hi, Value.string hh]); refine (HO2.out _).mono ?_; rintro e w' ⟨rfl, x2, rfl⟩))
        go_ret
        exact ⟨rfl, by (show Grew _ _; repeat (first | exact Grew.refl _ | refine Grew.alloc ?_ _ | refine Grew.drew ?_ | refine Grew.more ?_ _))⟩
      all_goals
        rw [decide_eq_false (show ¬ (0 < wh ∧ 0 ≤ -p ∧ q ≤ 0) by omega)]
        go_enter Tryd.func29, Tryd.ntmps29
        go_wp2_with (first | (go_at_call 45; refine (HE.out _ (by exact HR.out.grew (by (show Grew _ _; repeat (first | exact Grew.refl _ | refine Grew.alloc ?_ _ | refine Grew.drew ?_ | refine Grew.more ?_ _))))).mono ?_; rintro e w' ⟨rfl, x, rfl⟩) | (go_at_call_of 46 (Value.agg #[Value.int .i64 lk, Value.int .i64 li, Value.string ls]); refine (HO1.out _).mono ?_; rintro e w' ⟨rfl, x1, rfl⟩) | (go_at_call_of 46 (Value.agg #[Value.int .i64 hk, Value.int .i64 hi, Value.string hh]); refine (HO2.out _).mono ?_; rintro e w' ⟨rfl, x2, rfl⟩))
        go_ret
        exact ⟨by first | rfl | (show Ending.returned (.bool (decide (q ≤ 0))) = _; rw [decide_eq_false (by omega)]), by (show Grew _ _; repeat (first | exact Grew.refl _ | refine Grew.alloc ?_ _ | refine Grew.drew ?_ | refine Grew.more ?_ _))⟩
    · have hd : decide (0 < wh) = false := decide_eq_false hw
      rw [decide_eq_false (show ¬ (0 < wh ∧ 0 ≤ -p ∧ q ≤ 0) by omega)]
      clear ha hp hq HL hz
      go_enter Tryd.func29, Tryd.ntmps29
      go_wp2_with (first | (go_at_call 45; refine (HE.out _ (by exact HR.out.grew (by (show Grew _ _; repeat (first | exact Grew.refl _ | refine Grew.alloc ?_ _ | refine Grew.drew ?_ | refine Grew.more ?_ _))))).mono ?_; rintro e w' ⟨rfl, x, rfl⟩))
      go_ret
      exact ⟨rfl, by (show Grew _ _; repeat (first | exact Grew.refl _ | refine Grew.alloc ?_ _ | refine Grew.drew ?_ | refine Grew.more ?_ _))⟩
theorem row_of_vrow {w : World} {A : Option Addr} {l : List V} (h : VRow w A l) : Row w A (l.map vc).flatten := by
  have hf : ∀ (l : List V) (m : Nat) (u : Value), (l.map vc).flatten[m]? = some u → ∃ i j cs, m = i * 3 + j ∧ (l.map vc)[i]? = some cs ∧ cs[j]? = some u := by
    intro l
    induction l with
    | nil => intro m u h; simp at h
    | cons v l ih =>
      intro m u hu
      rw [List.map_cons, List.flatten_cons] at hu
      by_cases hm : m < 3
      · rw [List.getElem?_append_left (by simpa [vc] using hm)] at hu
        exact ⟨0, m, vc v, by omega, by simp, hu⟩
      · rw [List.getElem?_append_right (by simp [vc]; omega)] at hu
        obtain ⟨i, j, cs, h1, h2, h3⟩ := ih (m - 3) u (by simpa [vc] using hu)
        exact ⟨i + 1, j, cs, by omega, by simpa using h2, h3⟩
  rcases h with h | ⟨b, o, hA, hb, hc⟩
  · refine Or.inl ?_
    rw [h]
    rfl
  · refine Or.inr ⟨b, o, hA, hb, fun m u hu => ?_⟩
    obtain ⟨i, j, cs, rfl, h2, h3⟩ := hf l m u hu
    exact hc i cs h2 j u h3
theorem flat_len (l : List V) : (l.map vc).flatten.length = l.length * 3 := by
  induction l with
  | nil => rfl
  | cons v l ih => rw [List.map_cons, List.flatten_cons, List.length_append, ih]; simp [vc]; omega
theorem flat_one (l : List V) : ∀ u ∈ (l.map vc).flatten, u.oneCell' = true := by
  intro u hu
  obtain ⟨cs, h1, h2⟩ := List.mem_flatten.1 hu
  obtain ⟨v, _, rfl⟩ := List.mem_map.1 h1
  simp only [vc, List.mem_cons, List.not_mem_nil, or_false] at h2
  rcases h2 with rfl | rfl | rfl <;> rfl
theorem infoVal : (Tryd.prog.info? 46).map (fun i => (i.zero, i.size, i.bytes)) = some (some (.agg #[.int .i64 0, .int .i64 0, .string ⟨#[]⟩]), 3, 32) := by kernel_rfl
end Go.Proofs.YtpcbnmpfiepaeaaDoor

/- Layer 20: may a key have been put, as the document says. Condition: rows that lie in memory that is there; keys that are not much. -/
namespace Go.Proofs.YtpcbnmpfiepaeaaDoor
open Go.RowKit
attribute [local go_sem] more_cell more_frozen more_more more_setCell more_of_drew more_of_drewN lt_more le_more past_cell past_cell2 past_frozen past_frozen2 past_setCell past_setCell2 mid_cell mid_frozen mid_setCell
attribute [local go_sem ↓] Go.wp_at_zero Go.wp_at_succ
attribute [local irreducible] hashN

theorem vrow_of {w : World} {A : Option Addr} {m : List Vl} (h : VlsR (PRow w) A m) : VRow w A (m.map toV) := by
  rcases m with _ | ⟨v, m⟩
  · exact Or.inl rfl
  · obtain ⟨b, o, hA, hb, _⟩ := vlsR_at h (i := 0) (by simp)
    refine Or.inr ⟨b, o, hA, hb, fun i cs hi j u hu => ?_⟩
    have hil : i < (v :: m).length := by
      rcases Nat.lt_or_ge i (v :: m).length with h1 | h1
      · exact h1
      · rw [List.getElem?_eq_none (by simpa using h1)] at hi
        cases hi
    obtain ⟨b', o', hA', _, c0, c1, c2⟩ := vlsR_at h hil
    rw [hA] at hA'
    injection hA' with hA'
    injection hA' with e1 e2 _
    subst e1 e2
    rw [List.getElem?_map, List.getElem?_map, List.getElem?_eq_getElem hil] at hi
    simp only [Option.map_some, Option.some.injEq] at hi
    subst hi
    rcases j with _ | _ | _ | j
    · simp [vc, toV] at hu; subst hu; simpa using c0
    · simp [vc, toV] at hu; subst hu; simpa [Nat.add_assoc] using c1
    · simp [vc, toV] at hu; subst hu; simpa [Nat.add_assoc] using c2
    · simp [vc] at hu
/-- The values at a place. -/
def atK (ls : List (List Vl)) (i : Nat) : List Vl := (ls.filter fun l => decide (i < l.length)).map fun l => l.getD i nulV
theorem atK_col (keys : List (List Vl)) (i : Nat) : colK keys i = (atK (keys.filter wholeV) i).map toV := by
  unfold colK atK
  rw [List.map_map]
  rfl
theorem atK_snoc {ls : List (List Vl)} {j : Nat} (i : Nat) (h : j < ls.length) : atK (ls.take (j + 1)) i = if i < ls[j].length then atK (ls.take j) i ++ [ls[j].getD i nulV] else atK (ls.take j) i := by
  unfold atK
  rw [List.take_succ_eq_append_getElem h, List.filter_append, List.map_append]
  by_cases hi : i < ls[j].length
  · rw [List.filter_cons_of_pos (by simpa using hi), if_pos hi]; rfl
  · rw [List.filter_cons_of_neg (by simpa using hi), if_neg hi]; simp
theorem longK_snoc {ls : List (List Vl)} {j : Nat} (h : j < ls.length) : longK 0 (ls.take (j + 1)) = max (longK 0 (ls.take j)) ls[j].length := by
  unfold longK
  rw [List.take_succ_eq_append_getElem h, List.foldl_append]
  rfl
def LgAt (w : World) (ls : List (List Vl)) (m : Nat) (x i : Value) (wr : World) : Prop := ∃ j : Nat, j ≤ m ∧ i = .int .i64 j ∧ x = .int .i64 (longK 0 (ls.take j) : Nat) ∧ Grew w wr
def PsAt (w : World) (n : Nat) (ok : Nat → Bool) (v : Value) (wr : World) : Prop := ∃ i : Nat, i ≤ n ∧ v = .int .i64 i ∧ Grew w wr ∧ ∀ q, q < i → ok q = true
def GaAt (w : World) (ls : List (List Vl)) (m i : Nat) (x v : Value) (wr : World) : Prop := ∃ (j : Nat) (A : Option Addr) (c : Nat), j ≤ m ∧ v = .int .i64 j ∧ x = .slice A (atK (ls.take j) i).length c ∧ Grew w wr ∧ wr.ownsRow w.heap.size 46 3 (.slice A (atK (ls.take j) i).length c) (atK (ls.take j) i).length (flatV (atK (ls.take j) i))
theorem atK_len (ls : List (List Vl)) (i : Nat) : (atK ls i).length ≤ ls.length := by
  unfold atK
  rw [List.length_map]
  exact List.length_filter_le _ _
set_option maxHeartbeats 8000000 in
set_option maxRecDepth 100000 in
theorem rpasses_any (seed words nb : Int) (keys : List (List Vl)) (hk : KeysOk keys) (key : List Vl) (hl : key.length ≤ 1000) (hz : ∀ v ∈ key, v.s.size ≤ 3000) (hkr : (keyRowL key).length ≤ 1000000) (A K : Option Addr) (kA kK : Nat) (w : World) (ra : RwsR (PRow w) A keys) (rk : VlsR (PRow w) K key) (t : Bool)
    (hD : t = true ↔ keys.filter wholeV ≠ [] ∧ wholeV key = true ∧ key.length ≤ longK 0 (keys.filter wholeV) ∧ (∀ i, i < key.length → hasS (addS zeroS (colK keys i)) (toV (key.getD i nulV)) = true) ∧ hasN (addW (List.replicate (clampN words 4096) 0) (clampN nb 5) (numsK seed keys)) (clampN nb 5) (hashN seed key) = true) :
    Gives Tryd.prog 10 #[.int .i64 seed, .int .i64 words, .int .i64 nb, .slice A keys.length kA, .slice K key.length kK] w (.bool t) := by
  have hn := clamp_le words 4096 (by decide)
  have hkb := clamp_le nb 5 (by decide)
  have hkl := hk.1
  have hcl := cntW_le keys
  have HW := Lib.hid (wholesR_any w keys (by omega) (fun r hr => Nat.le_trans (hk.2 r hr).1 (by decide)) A kA w (Grew.refl w) ra)
  have HBi : Hid (∀ W, Grew w W → Calls Tryd.prog 8 #[.int .i64 seed, .int .i64 words, .int .i64 nb, .slice A keys.length kA] W (BitsF W (clampN words 4096) (clampN nb 5) (numsK seed keys))) := Lib.hid fun W hW => rbits_any seed words nb keys hk A kA W (ra.grew hW)
  have HRow : Hid (∀ W, Grew w W → Gives Tryd.prog 26 #[.int .i64 seed, .slice K key.length kK] W (.int .u64 (hashN seed key : Nat))) := Lib.hid fun W hW => by
    rw [(hashN_is seed key).1]
    exact rrow17_any seed key hl hz hkr K kK W (rk.grew hW)
  have HWk : Hid (∀ W, Grew w W → Gives Tryd.prog 15 #[.slice K key.length kK] W (.bool (wholeV key))) := Lib.hid fun W hW => rwhole_any key (by omega) K kK W (rk.grew hW)
  obtain ⟨th, hth⟩ : ∃ th, hasN (addW (List.replicate (clampN words 4096) 0) (clampN nb 5) (numsK seed keys)) (clampN nb 5) (hashN seed key) = th := ⟨_, rfl⟩
  have HHb : Hid (∀ W g c, BRow W (some ⟨g, 0, none⟩) (B18.bitL (addW (List.replicate (clampN words 4096) 0) (clampN nb 5) (numsK seed keys))) → Gives Tryd.prog 30 #[.agg #[.slice (some ⟨g, 0, none⟩) (64 * clampN words 4096) c, .int .i64 (clampN nb 5 : Nat)], .int .u64 (hashN seed key : Nat)] W (.bool th)) := Lib.hid fun W g c hb => rhas_b (addW (List.replicate (clampN words 4096) 0) (clampN nb 5) (numsK seed keys)) (clampN nb 5) (hashN seed key) g c _ (by rw [addW_len, List.length_replicate]) (by rw [addW_len, List.length_replicate]; omega) (by rw [addW_len, List.length_replicate]; omega) hkb.1 (hashN_is seed key).2 th hth W hb
  have HH19 : Hid (∀ W S c i (hi : i < key.length), VlsR (PRow W) S (atK (keys.filter wholeV) i) → Gives Tryd.prog 29 #[.slice S (atK (keys.filter wholeV) i).length c, va (toV key[i])] W (.bool (hasS (addS zeroS (colK keys i)) (toV (key.getD i nulV))))) := Lib.hid fun W S c i hi hv => by
    have hx : key.getD i nulV = key[i] := by rw [List.getD_eq_getElem?_getD, List.getElem?_eq_getElem hi, Option.getD_some]
    have hm : (3000 : Nat) ≤ maxLen := by unfold maxLen; decide
    have hat := atK_len (keys.filter wholeV) i
    have hff : (keys.filter wholeV).length = cntW keys := rfl
    rw [hx, atK_col]
    refine rhas_to ((atK (keys.filter wholeV) i).map toV) S _ c (by rw [List.length_map]) (by omega) (fun v hv' => ?_) (toV key[i]) (Nat.le_trans (hz _ (List.getElem_mem hi)) hm) _ rfl _ rfl W (vrow_of hv)
    obtain ⟨y, hy, rfl⟩ := List.mem_map.1 hv'
    obtain ⟨r, hr, rfl⟩ := List.mem_map.1 hy
    obtain ⟨hr1, hr2⟩ := List.mem_filter.1 hr
    have hir : i < r.length := by simpa using hr2
    show (r.getD i nulV).s.size ≤ maxLen
    rw [List.getD_eq_getElem?_getD, List.getElem?_eq_getElem hir, Option.getD_some]
    exact Nat.le_trans ((hk.2 r (List.mem_filter.1 hr1).1).2.1 _ (List.getElem_mem hir)) hm
  have hfl : (keys.filter wholeV).length = cntW keys := rfl
  have HD := Lib.hid hD
  rw [hth] at HD
  have RK := Lib.hid rk
  clear ra rk hk hz hkr hth hD
  generalize (fun i => hasS (addS zeroS (colK keys i)) (toV (key.getD i nulV))) = okf at *
  generalize keys.filter wholeV = ls at *
  generalize cntW keys = m at *
  unfold Gives
  go_enter Tryd.func10, Tryd.ntmps10
  go_wp2_with fail
  refine HW.out.mono ?_
  rintro e w3 ⟨L, cL, css, rfl, hg3, hcL, hoL, hlL⟩
  have HG3 := Lib.hid hg3
  have HRL := Lib.hid (rws_own hoL hlL hg3)
  clear hg3 hoL hlL HW
  go_wp2
  go_loopw [12, 13] (fun x i wr => LgAt w3 ls m x i wr) (fun _ i _ => m - (intOf i).toNat)
  case atStart => exact ⟨0, Nat.zero_le _, rfl, rfl, Grew.refl _⟩
  case round =>
    obtain ⟨j, hj, rfl, rfl, hg⟩ := hrel
    have HG := Lib.hid hg
    clear hg
    by_cases h : j < m
    · have hji : (j : Int) < (m : Int) := by omega
      have e0 : decide ((j : Int) < (m : Int)) = true := decide_eq_true hji
      have hjl : j < ls.length := by omega
      obtain ⟨kx, ko, PA, ka, rfl, hkx, c0, hka, hva⟩ := rwsR_at (HRL.out.grew HG.out) hjl
      have HSn := Lib.hid (longK_snoc hjl)
      clear hka hva
      generalize longK 0 (ls.take j) = lg at *
      generalize ls[j].length = rl at *
      by_cases hgt : lg < rl
      · have e1 : decide ((lg : Int) < (rl : Int)) = true := decide_eq_true (by omega)
        have hgi : (lg : Int) < (rl : Int) := by omega
        go_wp2
        exact ⟨⟨j + 1, by omega, by go_num, by rw [HSn.out, Nat.max_eq_right (Nat.le_of_lt hgt)], HG.out⟩, by simp only [intOf]; omega⟩
      · have e1 : decide ((lg : Int) < (rl : Int)) = false := decide_eq_false (by omega)
        have hgi : ¬ (lg : Int) < (rl : Int) := by omega
        go_wp2
        exact ⟨⟨j + 1, by omega, by go_num, by rw [HSn.out, Nat.max_eq_left (by omega)], HG.out⟩, by simp only [intOf]; omega⟩
    · obtain rfl : j = m := by omega
      have e0 : decide ((j : Int) < (j : Int)) = false := decide_eq_false (by omega)
      rw [List.take_of_length_le (by omega : ls.length ≤ j)]
      by_cases hm0 : j = 0
      · have ht : t = false := by
          cases t
          · rfl
          · exact absurd (List.eq_nil_of_length_eq_zero (by omega)) (HD.out.1 rfl).1
        have e1 : ((j : Int) == 0) = true := by rw [beq_iff_eq]; omega
        subst ht
        clear HD
        go_wp2
        go_ret
        exact ⟨rfl, HG3.out.trans HG.out⟩
      have hnil : ls ≠ [] := fun h => by rw [h] at hfl; simp at hfl; omega
      have e1 : ((j : Int) == 0) = false := by rw [beq_eq_false_iff_ne]; omega
      obtain ⟨tw, htw⟩ : ∃ tw, wholeV key = tw := ⟨_, rfl⟩
      rw [htw] at HD HWk
      clear htw
      go_wp2_with fail
      (with_reducible refine (HWk.out wr (HG3.out.trans HG.out)).grows.mono ?_)
      rintro e w4 ⟨rfl, hg4⟩
      have HG4 := Lib.hid (HG.out.trans hg4)
      clear hg4 HG HWk
      cases tw
      · have ht : t = false := by
          cases t
          · rfl
          · exact absurd (HD.out.1 rfl).2.1 (by decide)
        subst ht
        clear HD
        go_wp2
        go_ret
        exact ⟨rfl, HG3.out.trans HG4.out⟩
      obtain ⟨lg, hlg⟩ : ∃ lg, longK 0 ls = lg := ⟨_, rfl⟩
      rw [hlg] at HD ⊢
      clear hlg
      by_cases hgt : lg < key.length
      · have e2 : decide ((lg : Int) < (key.length : Int)) = true := decide_eq_true (by omega)
        have hgi : (lg : Int) < (key.length : Int) := by omega
        have ht : t = false := by
          cases t
          · rfl
          · have := (HD.out.1 rfl).2.2.1
            omega
        subst ht
        clear HD
        go_wp2
        go_ret
        exact ⟨rfl, HG3.out.trans HG4.out⟩
      have e2 : decide ((lg : Int) < (key.length : Int)) = false := decide_eq_false (by omega)
      have hgi : ¬ (lg : Int) < (key.length : Int) := by omega
      have HD2 : Hid (t = true ↔ (∀ i, i < key.length → hasS (addS zeroS (colK keys i)) (toV (key.getD i nulV)) = true) ∧ th = true) := Lib.hid ⟨fun h => (HD.out.1 h).2.2.2, fun h => HD.out.2 ⟨hnil, rfl, by omega, h.1, h.2⟩⟩
      clear HD
      obtain ⟨ok, hok⟩ : ∃ ok : Nat → Bool, ∀ i, hasS (addS zeroS (colK keys i)) (toV (key.getD i nulV)) = ok i := ⟨fun i => hasS (addS zeroS (colK keys i)) (toV (key.getD i nulV)), fun _ => rfl⟩
      have HOk := Lib.hid hok
      have HD3 : Hid (t = true ↔ (∀ i, i < key.length → ok i = true) ∧ th = true) := Lib.hid (by
        rw [HD2.out]
        constructor
        · rintro ⟨h1, h2⟩
          exact ⟨fun i hi => by rw [← HOk.out]; exact h1 i hi, h2⟩
        · rintro ⟨h1, h2⟩
          exact ⟨fun i hi => by rw [HOk.out]; exact h1 i hi, h2⟩)
      have HH2 : Hid (∀ W S c i (hi : i < key.length), VlsR (PRow W) S (atK ls i) → Gives Tryd.prog 29 #[.slice S (atK ls i).length c, .agg #[.int .i64 key[i].k, .int .i64 key[i].i, .string key[i].s]] W (.bool (ok i))) := Lib.hid fun W S c i hi hv => by
        have := HH19.out W S c i hi hv
        rw [HOk.out] at this
        exact this
      clear hok HOk HD2 HH19
      go_wp2
      go_loopw [14] (fun v wr => PsAt w3 key.length ok v wr) (fun v _ => key.length - (intOf v).toNat)
      case atStart => exact ⟨0, Nat.zero_le _, rfl, HG4.out, fun q hq => absurd hq (Nat.not_lt_zero q)⟩
      case round =>
        clear HG4
        obtain ⟨i, hi, rfl, hg, hok⟩ := hrel
        have HG := Lib.hid hg
        have HOk := Lib.hid hok
        clear hg hok
        by_cases h2 : i < key.length
        · have hii : (i : Int) < (key.length : Int) := by omega
          have e3 : decide ((i : Int) < (key.length : Int)) = true := decide_eq_true hii
          have HHi := Lib.hid (fun W S c => HH2.out W S c i h2)
          go_wp2
          go_loopw [15, 16] (fun x v wr => GaAt w3 ls j i x v wr) (fun _ v _ => j - (intOf v).toNat)
          case atStart => exact ⟨0, none, 0, Nat.zero_le _, rfl, rfl, HG.out, own_none _ _ _ 3⟩
          case round =>
            clear HG
            obtain ⟨q, S, c, hq, rfl, rfl, hg, ho⟩ := hrel
            have HG := Lib.hid hg
            have HO := Lib.hid ho
            clear hg ho
            by_cases h4 : q < j
            · have hqi : (q : Int) < (j : Int) := by omega
              have e4 : decide ((q : Int) < (j : Int)) = true := decide_eq_true hqi
              have hql : q < ls.length := by omega
              obtain ⟨kx, ko, PA, ka, rfl, hkx, c0, hka, hva⟩ := rwsR_at (HRL.out.grew HG.out) hql
              have HSn := Lib.hid (atK_snoc i hql)
              have hal := atK_len (ls.take q) i
              rw [List.length_take] at hal
              by_cases hir : i < ls[q].length
              · have e5 : decide ((i : Int) < (ls[q].length : Int)) = true := decide_eq_true (by omega)
                have hiri : (i : Int) < (ls[q].length : Int) := by omega
                obtain ⟨vx, vo, rfl, hvx, d0, d1, d2⟩ := vlsR_at hva hir
                have hgd : ls[q].getD i nulV = ls[q][i] := by rw [List.getD_eq_getElem?_getD, List.getElem?_eq_getElem hir, Option.getD_some]
                have hS2 := HSn.out
                rw [if_pos hir, hgd] at hS2
                have HS2 := Lib.hid hS2
                have HFl : Hid (∀ a : List Vl, flatV (a ++ [ls[q][i]]) = flatV a ++ [.int .i64 ls[q][i].k, .int .i64 ls[q][i].i, .string ls[q][i].s]) := Lib.hid fun a => by rw [flatV_app]; rfl
                clear hS2 HSn hka hva hgd
                generalize atK (ls.take q) i = al at *
                generalize ls[q][i] = vv at *
                generalize ls[q].length = rl at *
                obtain ⟨vk, vi, vs⟩ := vv
                simp only at d0 d1 d2 HFl
                go_wp2_with (at_builtin; refine wpList_apps rfl _ _ 23 46 3 rfl w3 (.agg #[.int .i64 0, .int .i64 0, .string ⟨#[]⟩]) 32 Tryd.underlying23 infoV rfl (by decide) (by decide) _ al.length (flatV al) rfl (own_alloc HO.out _) _ 1 1 [.int .i64 vk, .int .i64 vi, .string vs] rfl rfl (row_new _ _ _ _ rfl) (by simp [Value.oneCell']) (by omega) (HG.out.alloc _) ?_; intro A5 c5 w5 ho5 _ hg5 _ _; rw [← HFl.out] at ho5; have HO5 := Lib.hid ho5; have HG5 := Lib.hid hg5; clear ho5 hg5)
                refine ⟨⟨q + 1, A5, c5, by omega, by go_num, ?_, HG5.out, ?_⟩, by simp only [intOf]; omega⟩
                · rw [HS2.out, List.length_append]; rfl
                · rw [HS2.out, List.length_append]; exact HO5.out
              · have e5 : decide ((i : Int) < (ls[q].length : Int)) = false := decide_eq_false (by omega)
                have hiri : ¬ (i : Int) < (ls[q].length : Int) := by omega
                have hS2 := HSn.out
                rw [if_neg hir] at hS2
                have HS2 := Lib.hid hS2
                clear hS2 HSn hka hva
                generalize atK (ls.take q) i = al at *
                generalize ls[q].length = rl at *
                go_wp2
                exact ⟨⟨q + 1, S, c, by omega, by go_num, by rw [HS2.out], HG.out, by rw [HS2.out]; exact HO.out⟩, by simp only [intOf]; omega⟩
            · obtain rfl : q = j := by omega
              have e4 : decide ((q : Int) < (q : Int)) = false := decide_eq_false (by omega)
              have htk : ls.take q = ls := List.take_of_length_le (by omega)
              rw [htk] at HO ⊢
              obtain ⟨vx, vo, rfl, hvx, d0, d1, d2⟩ := vlsR_at (RK.out.grew (HG3.out.trans HG.out)) h2
              have HHj := Lib.hid (HHi.out wr S c (own_vals HO.out))
              obtain ⟨ti, hti⟩ : ∃ ti, ok i = ti := ⟨_, rfl⟩
              rw [hti] at HHj
              have HTi := Lib.hid hti
              clear hti HO HHi
              go_wp2_with fail
              (with_reducible refine HHj.out.grows.mono ?_)
              rintro e w6 ⟨rfl, hg6⟩
              have HG6 := Lib.hid (HG.out.trans hg6)
              clear hg6 HG HHj
              cases ti
              · have ht : t = false := by
                  cases t
                  · rfl
                  · have := (HD3.out.1 rfl).1 i h2
                    rw [HTi.out] at this
                    cases this
                subst ht
                clear HD3 HTi HOk
                go_wp2
                go_ret
                exact ⟨rfl, HG3.out.trans HG6.out⟩
              · have HNx : Hid (∀ q, q < i + 1 → ok q = true) := Lib.hid fun q hq => by
                  rcases Nat.lt_or_ge q i with h | h
                  · exact HOk.out q h
                  · obtain rfl : q = i := by omega
                    exact HTi.out
                clear HTi HOk
                go_wp2
                exact ⟨⟨i + 1, by omega, by go_num, HG6.out, HNx.out⟩, by simp only [intOf]; omega⟩
        · obtain rfl : i = key.length := by omega
          have e3 : decide ((key.length : Int) < (key.length : Int)) = false := decide_eq_false (by omega)
          have ht : th = t := by
            cases th
            · cases t
              · rfl
              · exact absurd (HD3.out.1 rfl).2 (by decide)
            · exact (HD3.out.2 ⟨HOk.out, rfl⟩).symm
          subst ht
          clear HD3 HOk HH2
          go_wp2_with fail
          refine (HBi.out wr (HG3.out.trans HG.out)).mono ?_
          rintro e w5 ⟨g, c, rfl, hg5, hb5⟩
          have HG5 := Lib.hid (HG.out.trans hg5)
          have HB5 := Lib.hid hb5
          clear hg5 hb5 HG HBi
          go_wp2_with fail
          (with_reducible refine (HRow.out w5 (HG3.out.trans HG5.out)).grows.mono ?_)
          rintro e w6 ⟨rfl, hg6⟩
          have HG6 := Lib.hid (HG5.out.trans hg6)
          have HHc := Lib.hid (HHb.out w6 g c (BRow.grew HB5.out hg6))
          clear hg6 HG5 HB5 HRow HHb
          go_wp2_with fail
          (with_reducible refine HHc.out.grows.mono ?_)
          rintro e w7 ⟨rfl, hg7⟩
          have HG7 := Lib.hid (HG6.out.trans hg7)
          clear hg7 HG6 HHc
          go_wp2
          go_ret
          exact ⟨rfl, HG3.out.trans HG7.out⟩
end Go.Proofs.YtpcbnmpfiepaeaaDoor

/- Layer 20: what is much, of keys and one more. Condition: rows that lie in memory that is there, in less than what memory holds. -/
namespace Go.Proofs.YtpcbnmpfiepaeaaDoor
open Go.RowKit
attribute [local go_sem] more_cell more_frozen more_more more_setCell more_of_drew more_of_drewN lt_more le_more past_cell past_cell2 past_frozen past_frozen2 past_setCell past_setCell2 mid_cell mid_frozen mid_setCell
attribute [local go_sem ↓] Go.wp_at_zero Go.wp_at_succ

set_option maxHeartbeats 4000000 in
set_option maxRecDepth 100000 in
theorem much20r_any (r : List Vl) (l : List (List Vl)) (hr0 : RwOk r) (hl : RwsOk l) (hb : l.length * 24 ≤ 140737488351232) (n : Int) (A PA : Option Addr) (k kr : Nat) (hkr : r.length ≤ kr) (w : World) (h : RwsR (PRow w) A l) (hv : VlsR (PRow w) PA r) :
    Calls Tryd.prog 4 #[.slice A l.length k, .slice PA r.length kr, .int .i64 n] w (MuchR w (goodRws (r :: l) ∧ n ≤ 40)) := by
  obtain ⟨css, hls, hrow⟩ := h
  have HV := Lib.hid hv
  have hfl : css.flatten.length = l.length := by have := hls.flat; omega
  have H1 : Hid (∀ u ∈ css.flatten, u.oneCell' = true) := Lib.hid (listR_one20 hls _ fun x cs hx => rwR_one20 hx)
  have HM : Hid (∀ W S c, Grew w W → Row W S ([.slice PA r.length kr] ++ css.flatten) → Calls Tryd.prog 16 #[.slice S (1 + l.length) c] W (MuchR W (goodRws (r :: l)))) := Lib.hid fun W S c hW hr => by
    have hx := much4_any (r :: l) ⟨by rw [List.length_cons]; omega, by intro x hx; rcases List.mem_cons.1 hx with h0 | hx; rw [h0]; exact hr0; exact hl.2 x hx⟩ S c W ⟨[[.slice PA r.length kr]] ++ css, by
      have h1 : ListR (RwR (PRow W)) 1 [r] [[.slice PA r.length kr]] := ⟨rfl, fun i x cs hi hd => by
        rcases i with _ | i
        · simp only [List.getElem?_cons_zero, Option.some.injEq] at hi hd
          subst hi hd
          exact ⟨⟨PA, kr, rfl, hkr, HV.out.grew hW⟩, rfl⟩
        · simp at hi⟩
      exact listR_app20 h1 (hls.map fun x cs hx => hx.imp fun _ _ _ h => h.grew hW), by simpa [PRow] using hr⟩
    rwa [List.length_cons, Nat.add_comm] at hx
  have HRw := Lib.hid hrow
  have HFl := Lib.hid hfl
  clear hls hrow hfl hl hv hr0
  generalize css.flatten = M at *
  go_enter Tryd.func4, Tryd.ntmps4
  go_wp2_with (at_builtin; refine wpList_appW20 rfl (.tmp 8) (.tmp 9) 22 23 1 rfl w (.slice none 0 0) 24 Tryd.underlying22 infoRw20 rfl (by decide) _ 1 [.slice PA r.length kr] rfl (own_one w w.heap.size _ _ _ rfl (Nat.le_refl _)) A l.length k M rfl (by rw [HFl.out, Nat.mul_one]) (HRw.out.grew ((Grew.refl w).alloc _)) H1.out (by unfold maxLen; omega) (by omega) ((Grew.refl w).alloc _) ?_; intro A3 c3 w3 _ hr3 hg3; have HR3 := Lib.hid hr3; have HG3 := Lib.hid hg3; clear hr3 hg3)
  refine (HM.out w3 A3 c3 HG3.out HR3.out).mono ?_
  rintro e w4 ⟨t, rfl, hg4, h4⟩
  have HG4 := Lib.hid (HG3.out.trans hg4)
  have H4 := Lib.hid h4
  clear hg4 h4 HG3 HR3 HM HRw HFl H1
  cases t
  · by_cases hn : 40 < n
    · have e0 : decide ((40 : Int) < n) = true := decide_eq_true hn
      go_wp2
      go_ret
      exact muchR_true _ HG4.out
    · have e0 : decide ((40 : Int) < n) = false := decide_eq_false hn
      have hx : goodRws (r :: l) ∧ n ≤ 40 := ⟨H4.out rfl, by omega⟩
      have HX := Lib.hid hx
      clear hx H4
      go_wp2
      go_ret
      exact muchR_false HG4.out HX.out
  · clear H4
    go_wp2
    go_ret
    exact muchR_true _ HG4.out
end Go.Proofs.YtpcbnmpfiepaeaaDoor

/- Layer 20: the law of which keys pass. Condition: rows that lie in memory that is there, in less than what memory holds; the library's table of powers. -/
namespace Go.Proofs.YtpcbnmpfiepaeaaDoor
open Go.RowKit
attribute [local go_sem] more_cell more_frozen more_more more_setCell more_of_drew more_of_drewN lt_more le_more past_cell past_cell2 past_frozen past_frozen2 past_setCell past_setCell2 mid_cell mid_frozen mid_setCell
attribute [local go_sem ↓] Go.wp_at_zero Go.wp_at_succ
attribute [local irreducible] hashN

theorem szRs_le20 {r : List Vl} {l : List (List Vl)} (hm : r ∈ l) : szR r ≤ szRs l := by
  induction l with
  | nil => cases hm
  | cons x m ih =>
    have e : szRs (x :: m) = szR x + szRs m := by simp [szRs]
    rcases List.mem_cons.1 hm with rfl | hm
    · omega
    · have := ih hm
      omega
theorem row_of_good {r : List Vl} {l : List (List Vl)} (h : goodRws l) (hr : r ∈ l) : r.length ≤ 1000 ∧ (∀ v ∈ r, v.s.size ≤ 3000) ∧ (keyRowL r).length ≤ 1000000 := by
  obtain ⟨h1, h2, h3⟩ := h
  have hsz := szRs_le20 hr
  have hg := good_row (l := r) ⟨by simp, by intro x hx; simp only [List.mem_cons, List.not_mem_nil, or_false] at hx; subst hx; exact h2 _ hr, by simp only [szRs, List.map_cons, List.map_nil, List.sum_cons, List.sum_nil]; omega⟩
  exact ⟨by omega, hg.2.1, by omega⟩
theorem keys_good {k : List Vl} {l : List (List Vl)} (h : goodRws (k :: l)) : KeysOk l := by
  have h1 := h.1
  rw [List.length_cons] at h1
  exact ⟨by omega, fun r hr => row_of_good h (List.mem_cons_of_mem _ hr)⟩
def OnAt (u : World) (l : List Bool) (n : Nat) (v i : Value) (wr : World) : Prop := ∃ j : Nat, j ≤ n ∧ i = .int .i64 j ∧ v = .int .i64 ((B18.cntB l j : Nat) : Int) ∧ Grew u wr
set_option maxHeartbeats 16000000 in
set_option maxRecDepth 100000 in
theorem siftPasses_walk (seed words nb : Int) (keys : List (List Vl)) (key : List Vl) (A K : Option Addr) (cA cK : Nat) (w : World) (ha : RwsOk keys) (hb : RwOk key) (hba : keys.length * 24 ≤ 140737488351232) (hck : key.length ≤ cK) (ra : RwsR (PRow w) A keys) (rk : VlsR (PRow w) K key) (htab : Lib.TabIs Tryd.prog w "internal/strconv.uint64pow10" .u64 Lib.pow10Tab) :
    Gives Tryd.prog 3 #[.int .i64 seed, .int .i64 words, .int .i64 nb, .slice A keys.length cA, .slice K key.length cK] w (.bool true) := by
  have HMa := Lib.hid (much20r_any key keys hb ha hba words A K cA cK hck w ra rk)
  have HLive : Hid (∀ W, Grew w W → Gives Tryd.prog 5 #[] W (.bool true)) := Lib.hid fun W hW => live20_any W (tab_grew htab hW)
  have RA := Lib.hid ra
  have RK := Lib.hid rk
  have HTab := Lib.hid htab
  clear ra rk htab ha hb hba hck
  unfold Gives
  go_enter Tryd.func3, Tryd.ntmps3
  go_wp2_with fail
  refine HMa.out.mono ?_
  rintro e w1 ⟨t, rfl, hg1, h1⟩
  have HG1 := Lib.hid hg1
  cases t
  rotate_left
  · clear h1 hg1
    go_wp2_with (go_at_call 5; (with_reducible refine (HLive.out _ HG1.out).grows.mono ?_); rintro e w5 ⟨rfl, hg5⟩; have HG5 := Lib.hid (show Grew w w5 from HG1.out.trans hg5); clear hg5)
    go_ret
    exact ⟨rfl, HG5.out⟩
  have HKa := Lib.hid (keys_good (h1 rfl).1)
  obtain ⟨l1, l2, l3⟩ := row_of_good (h1 rfl).1 (r := key) List.mem_cons_self
  clear h1 hg1 HMa
  have ⟨hn1, hn0⟩ := clamp_le words 4096 (by decide)
  have ⟨hk1, hk0⟩ := clamp_le nb 5 (by decide)
  have hla := HKa.out.1
  have HN : Hid (∀ W, Calls Tryd.prog 7 #[.int .i64 seed, .int .i64 words, .int .i64 nb] W fun e w' => ∃ g c S cS, e = .returned (.agg #[.slice (some ⟨g, 0, none⟩) (clampN words 4096) c, .int .i64 (clampN nb 5 : Nat), .slice S 0 cS, .int .i64 seed, .int .i64 0]) ∧ Grew W w' ∧ URow w' (some ⟨g, 0, none⟩) (List.replicate (clampN words 4096) 0)) := Lib.hid fun W => by
    refine (snew_any seed words nb W).mono ?_
    rintro e w' ⟨g, c, S, cS, rfl, h1, h2, h3⟩
    refine ⟨g, c, S, cS, ?_, h1, h2⟩
    unfold sfC newF
    rw [List.length_replicate]
    rfl
  have HAa : Hid (∀ W (g c : Nat) (S : Option Addr) (cS : Nat), Grew w W → URow W (some ⟨g, 0, none⟩) (List.replicate (clampN words 4096) 0) → Calls Tryd.prog 6 #[.agg #[.slice (some ⟨g, 0, none⟩) (clampN words 4096) c, .int .i64 (clampN nb 5 : Nat), .slice S 0 cS, .int .i64 seed, .int .i64 0], .slice A keys.length cA] W fun e w' => ∃ g' c' S' cS', e = .returned (.agg #[.slice (some ⟨g', 0, none⟩) (clampN words 4096) c', .int .i64 (clampN nb 5 : Nat), .slice S' (ofK seed words nb keys).ss.length cS', .int .i64 seed, .int .i64 (cntW keys : Nat)]) ∧ Grew W w' ∧ URow w' (some ⟨g', 0, none⟩) (ofK seed words nb keys).ws ∧ Row w' S' (flatS (ofK seed words nb keys).ss)) := Lib.hid fun W g c S cS hW hu => by
    have hx := sadd_any (newF seed words nb) keys g c S A cS cA 0 (by show 0 < (List.replicate _ 0).length; rw [List.length_replicate]; omega) (by show (List.replicate _ 0).length ≤ _; rw [List.length_replicate]; omega) (by show 0 < clampN nb 5; omega) hk1 (ok_rep _) (Nat.zero_le _) (fun s hs => by cases hs) (by decide) (by show (0 : Int) ≤ 0; decide) (by show (0 : Int) ≤ 1000000; decide) HKa.out W hu (Or.inl rfl) (RA.out.grew hW) (tab_grew HTab.out hW)
    have e0 : (newF seed words nb).ws.length = clampN words 4096 := List.length_replicate
    rw [e0] at hx
    refine hx.mono ?_
    rintro e w' ⟨g', c', S', cS', rfl, h1, h2, h3⟩
    refine ⟨g', c', S', cS', ?_, h1, h2, h3⟩
    show Ending.returned (.agg (sfC (ofK seed words nb keys) g' c' S' cS').toArray) = _
    unfold sfC
    rw [ofK_len, ofK_k, ofK_seed, ofK_cnt]
    rfl
  obtain ⟨t, ht⟩ : ∃ t, (wholeV key && (haveS (ofK seed words nb keys).ss key && hasN (ofK seed words nb keys).ws (ofK seed words nb keys).k (hashN (ofK seed words nb keys).seed key))) = t := ⟨_, rfl⟩
  have hD := passes_doc seed words nb keys key
  rw [ht] at hD
  have HP : Hid (∀ W g c S cS, Grew w W → URow W (some ⟨g, 0, none⟩) (ofK seed words nb keys).ws → Row W S (flatS (ofK seed words nb keys).ss) → Gives Tryd.prog 9 #[.agg #[.slice (some ⟨g, 0, none⟩) (clampN words 4096) c, .int .i64 (clampN nb 5 : Nat), .slice S (ofK seed words nb keys).ss.length cS, .int .i64 seed, .int .i64 (cntW keys : Nat)], .slice K key.length cK] W (.bool t)) := Lib.hid fun W g c S cS hW h1 h2 => by
    have hx := passes_any (ofK seed words nb keys) g c S cS key K cK (by rw [ofK_len]; omega) (by rw [ofK_len]; omega) hk1 (ofK_ok _ _ _ _) l1 l2 l3 W h1 h2 (RK.out.grew hW) (tab_grew HTab.out hW)
    rw [ht, ofK_len, ofK_k, ofK_seed, ofK_cnt] at hx
    exact hx
  have HRP : Hid (∀ W, Grew w W → Gives Tryd.prog 10 #[.int .i64 seed, .int .i64 words, .int .i64 nb, .slice A keys.length cA, .slice K key.length cK] W (.bool t)) := Lib.hid fun W hW => rpasses_any seed words nb keys HKa.out key l1 l2 l3 A K cA cK W (RA.out.grew hW) (RK.out.grew hW) t hD
  have HBi : Hid (∀ W, Grew w W → Calls Tryd.prog 8 #[.int .i64 seed, .int .i64 words, .int .i64 nb, .slice A keys.length cA] W fun e w' => ∃ g c, e = .returned (.agg #[.slice (some ⟨g, 0, none⟩) (64 * clampN words 4096) c, .int .i64 (clampN nb 5 : Nat)]) ∧ Grew W w' ∧ BRow w' (some ⟨g, 0, none⟩) (B18.bitL (ofK seed words nb keys).ws)) := Lib.hid fun W hW => rbits_any seed words nb keys HKa.out A cA W (RA.out.grew hW)
  have HOn : Hid (∀ W g c S cS, URow W (some ⟨g, 0, none⟩) (ofK seed words nb keys).ws → Gives Tryd.prog 13 #[.agg #[.slice (some ⟨g, 0, none⟩) (clampN words 4096) c, .int .i64 (clampN nb 5 : Nat), .slice S (ofK seed words nb keys).ss.length cS, .int .i64 seed, .int .i64 (cntW keys : Nat)]] W (.int .i64 (B18.cntB (B18.bitL (ofK seed words nb keys).ws) (64 * clampN words 4096) : Nat))) := Lib.hid fun W g c S cS h1 => by
    have hx := B18.onesW_is (ofK seed words nb keys).ws (clampN words 4096) (by rw [ofK_len]; exact Nat.le_refl _)
    rw [hx]
    exact sones_any (ofK seed words nb keys).ws (clampN nb 5 : Nat) (clampN words 4096) g c S _ cS seed _ (ofK_len _ _ _ _) (by omega) (ofK_ok _ _ _ _) W h1
  have hbl : (B18.bitL (ofK seed words nb keys).ws).length = 64 * clampN words 4096 := by rw [B18.bitL_len, ofK_len]
  have HCa : Hid (∀ W, Grew w W → Gives Tryd.prog 12 #[.slice A keys.length cA] W (.int .i64 (cntW keys : Nat))) := Lib.hid fun W hW => rcount20_any keys (by omega) (fun r hr => Nat.le_trans (HKa.out.2 r hr).1 (by decide)) A cA W (RA.out.grew hW)
  have HWh : Hid (∀ W, Grew w W → Gives Tryd.prog 14 #[.slice K key.length cK] W (.bool (wholeV key))) := Lib.hid fun W hW => whole_any key (by omega) K cK W (RK.out.grew hW)
  have HRw : Hid (∀ W, Grew w W → Gives Tryd.prog 15 #[.slice K key.length cK] W (.bool (wholeV key))) := Lib.hid fun W hW => rwhole_any key (by omega) K cK W (RK.out.grew hW)
  clear HKa HTab RA RK ht hD
  generalize ofK seed words nb keys = fa at *
  generalize clampN words 4096 = nw at *
  generalize clampN nb 5 = nk at *
  generalize cntW keys = na at *
  generalize wholeV key = tw at *
  obtain ⟨wsa, nka, ssa, sda, cna⟩ := fa
  simp only at HAa HP HBi HOn hbl
  obtain ⟨la, hlla⟩ : ∃ la, ssa.length = la := ⟨_, rfl⟩
  rw [hlla] at HAa HP HOn
  clear hlla
  generalize B18.bitL wsa = bl at *
  have HCs : Hid (∀ i, B18.cntB bl (i + 1) = B18.cntB bl i + if bl[i]? = some true then 1 else 0) := Lib.hid fun i => rfl
  have HCl := Lib.hid (B18.cntB_le bl)
  go_wp2_with fail
  refine (HN.out w1).mono ?_
  rintro e w3 ⟨gn, cn, Sn, dn, rfl, hg3, hu3⟩
  have HG3 := Lib.hid (HG1.out.trans hg3)
  have HU3 := Lib.hid hu3
  clear hg3 hu3 HG1
  go_wp2_with fail
  refine (HAa.out w3 gn cn Sn dn HG3.out HU3.out).mono ?_
  rintro e w4 ⟨ga, ca, Sa, da, rfl, hg4, hu4, hr4⟩
  obtain ⟨w5, hw5⟩ : ∃ w5, w4.alloc (.cells #[.slice (some ⟨ga, 0, none⟩) nw ca, .int .i64 nk, .slice Sa la da, .int .i64 seed, .int .i64 na] 32) = w5 := ⟨_, rfl⟩
  have hg5 : Grew w4 w5 := by rw [← hw5]; exact (Grew.refl _).alloc _
  have HB5 : Hid (Blok w5 w4.heap.size 32 #[.slice (some ⟨ga, 0, none⟩) nw ca, .int .i64 nk, .slice Sa la da, .int .i64 seed, .int .i64 na]) := Lib.hid (by rw [← hw5]; exact Blok.new _ _ _ _ rfl)
  obtain ⟨g11, hg11⟩ : ∃ g11, w4.heap.size = g11 := ⟨_, rfl⟩
  rw [hg11] at HB5
  have HG5 := Lib.hid (HG3.out.trans (hg4.trans hg5))
  have HU5 := Lib.hid (Row.grew hu4 hg5)
  have HR5 := Lib.hid (Row.grew hr4 hg5)
  have HW5 := Lib.hid hw5
  have Hg11 := Lib.hid hg11
  clear hg4 hu4 hr4 hw5 hg5 hg11 HG3 HU3 HN HAa
  go_wp2_with fail
  rw [HW5.out, Hg11.out]
  clear HW5 Hg11
  refine (HBi.out w5 HG5.out).mono ?_
  rintro e w6 ⟨gb, cb, rfl, hg6, hb6⟩
  obtain ⟨w7, hw7⟩ : ∃ w7, w6.alloc (.cells #[.slice (some ⟨gb, 0, none⟩) (64 * nw) cb, .int .i64 nk] 37) = w7 := ⟨_, rfl⟩
  have hg7 : Grew w6 w7 := by rw [← hw7]; exact (Grew.refl _).alloc _
  have HF7 : Hid (Blok w7 w6.heap.size 37 #[.slice (some ⟨gb, 0, none⟩) (64 * nw) cb, .int .i64 nk]) := Lib.hid (by rw [← hw7]; exact Blok.new _ _ _ _ rfl)
  obtain ⟨g12, hg12⟩ : ∃ g12, w6.heap.size = g12 := ⟨_, rfl⟩
  rw [hg12] at HF7
  have h57 := hg6.trans hg7
  have HG7 := Lib.hid (HG5.out.trans h57)
  have HU7 := Lib.hid (Row.grew HU5.out h57)
  have HR7 := Lib.hid (Row.grew HR5.out h57)
  have HB7 := Lib.hid (HB5.out.grew h57)
  have HBl := Lib.hid (BRow.grew hb6 hg7)
  have HW7 := Lib.hid hw7
  have Hg12 := Lib.hid hg12
  have HS : Hid (∀ W, Grew w7 W → g11 < W.heap.size ∧ W.cell? ⟨g11, 0, none⟩ = some (.slice (some ⟨ga, 0, none⟩) nw ca) ∧ W.cell? ⟨g11, 1, none⟩ = some (.int .i64 nk) ∧ W.cell? ⟨g11, 2, none⟩ = some (.slice Sa la da) ∧ W.cell? ⟨g11, 3, none⟩ = some (.int .i64 seed) ∧ W.cell? ⟨g11, 4, none⟩ = some (.int .i64 na)) := Lib.hid fun W hW => ⟨(HB7.out.grew hW).lt, (HB7.out.grew hW).cell 0, (HB7.out.grew hW).cell 1, (HB7.out.grew hW).cell 2, (HB7.out.grew hW).cell 3, (HB7.out.grew hW).cell 4⟩
  clear hg6 hb6 hw7 hg7 hg12 h57 HG5 HU5 HR5 HB5 HB7 HBi
  go_wp2
  rw [HW7.out, Hg12.out]
  clear HW7 Hg12
  go_loopw [13, 14] (fun v i wr => OnAt w7 bl (64 * nw) v i wr) (fun _ i _ => 64 * nw - (intOf i).toNat)
  case atStart => exact ⟨0, Nat.zero_le _, rfl, rfl, Grew.refl _⟩
  case round =>
    obtain ⟨j, hj, rfl, rfl, hg⟩ := hrel
    have HG := Lib.hid hg
    have hf := HF7.out.grew hg
    have k0 := hf.cell 0
    simp at k0
    have hfl := hf.lt
    clear hg hf
    obtain ⟨nn, hnn⟩ : ∃ nn, 64 * nw = nn := ⟨_, rfl⟩
    rw [hnn] at hj hbl HOn k0 ⊢
    by_cases h : j < nn
    · have hji : (j : Int) < (nn : Int) := by omega
      have e0 : decide ((j : Int) < (nn : Int)) = true := decide_eq_true hji
      have hjl : j < bl.length := by omega
      have c0 : wr.cell? ⟨gb, j, none⟩ = some (.bool bl[j]) := by
        have := row_cells (BRow.grew HBl.out HG.out) j (.bool bl[j]) (by unfold bV8; rw [List.getElem?_map, List.getElem?_eq_getElem hjl]; rfl)
        simpa using this
      have hgl : gb < wr.heap.size := by
        rcases BRow.grew HBl.out HG.out with h0 | ⟨b, o, hA, hb, _⟩
        · have := congrArg List.length h0
          simp [bV8] at this
          rw [this] at hjl
          simp at hjl
        · injection hA with hA
          injection hA with h1 _ _
          omega
      have hs := HCs.out j
      rw [List.getElem?_eq_getElem hjl] at hs
      have hcl := HCl.out j
      have HSn := Lib.hid hs
      clear hs
      generalize bl[j] = tb at *
      generalize B18.cntB bl j = v0 at *
      cases tb
      · have h1 : B18.cntB bl (j + 1) = v0 := by have := HSn.out; simpa using this
        have H1 := Lib.hid h1
        clear h1 HSn HCs HCl
        go_wp2
        exact ⟨⟨j + 1, by omega, by go_num, by rw [H1.out], HG.out⟩, by simp only [intOf]; omega⟩
      · have h1 : B18.cntB bl (j + 1) = v0 + 1 := by have := HSn.out; simpa using this
        have H1 := Lib.hid h1
        clear h1 HSn HCs HCl
        go_wp2
        exact ⟨⟨j + 1, by omega, by go_num, by rw [H1.out]; go_num, HG.out⟩, by simp only [intOf]; omega⟩
    · obtain rfl : j = nn := by omega
      have e0 : decide ((j : Int) < (j : Int)) = false := decide_eq_false (by omega)
      have q1 : (t == t) = true := by simp
      have q2 : ((na : Int) == (na : Int)) = true := by simp
      have q4 : (tw == tw) = true := by simp
      generalize B18.cntB bl j = on at *
      have q3 : ((on : Int) == (on : Int)) = true := by simp
      obtain ⟨hl0, c0, c1, c2, c3, c4⟩ := HS.out wr HG.out
      have HP1 := Lib.hid (HP.out wr ga ca Sa da (HG7.out.trans HG.out) (Row.grew HU7.out HG.out) (Row.grew HR7.out HG.out))
      clear HCs HCl HBl HF7
      go_wp2_with fail
      clear hl0 c0 c1 c2 c3 c4 k0 hfl
      (with_reducible refine HP1.out.grows.mono ?_)
      rintro e w8 ⟨rfl, hgx⟩
      have HG8 := Lib.hid (HG.out.trans hgx)
      clear hgx HG HP1 HP
      go_wp2_with fail
      (with_reducible refine (HRP.out w8 (HG7.out.trans HG8.out)).grows.mono ?_)
      rintro e w9 ⟨rfl, hgx⟩
      have HG9 := Lib.hid (HG8.out.trans hgx)
      clear hgx HG8 HRP
      obtain ⟨hl0, c0, c1, c2, c3, c4⟩ := HS.out w9 HG9.out
      go_wp2_with fail
      clear hl0 c0 c1 c2 c3 c4
      (with_reducible refine (scount_any (some ⟨ga, 0, none⟩) Sa nw ca la da nk seed na w9).grows.mono ?_)
      rintro e w10 ⟨rfl, hgx⟩
      have HG10 := Lib.hid (HG9.out.trans hgx)
      clear hgx HG9
      go_wp2_with fail
      (with_reducible refine (HCa.out w10 (HG7.out.trans HG10.out)).grows.mono ?_)
      rintro e w11 ⟨rfl, hgx⟩
      have HG11 := Lib.hid (HG10.out.trans hgx)
      clear hgx HG10 HCa
      obtain ⟨hl0, c0, c1, c2, c3, c4⟩ := HS.out w11 HG11.out
      have HO1 := Lib.hid (HOn.out w11 ga ca Sa da (Row.grew HU7.out HG11.out))
      go_wp2_with fail
      clear hl0 c0 c1 c2 c3 c4
      (with_reducible refine HO1.out.grows.mono ?_)
      rintro e w12 ⟨rfl, hgx⟩
      have HG12 := Lib.hid (HG11.out.trans hgx)
      clear hgx HG11 HO1 HOn
      go_wp2_with fail
      (with_reducible refine (HWh.out w12 (HG7.out.trans HG12.out)).grows.mono ?_)
      rintro e w13 ⟨rfl, hgx⟩
      have HG13 := Lib.hid (HG12.out.trans hgx)
      clear hgx HG12 HWh
      go_wp2_with fail
      (with_reducible refine (HRw.out w13 (HG7.out.trans HG13.out)).grows.mono ?_)
      rintro e w14 ⟨rfl, hgx⟩
      have HG14 := Lib.hid (HG7.out.trans (HG13.out.trans hgx))
      clear hgx HG13 HRw
      go_wp2_with fail
      (with_reducible refine (HLive.out w14 HG14.out).grows.mono ?_)
      rintro e w15 ⟨rfl, hgx⟩
      have HG15 := Lib.hid (HG14.out.trans hgx)
      clear hgx HG14 HLive
      go_wp2
      go_ret
      exact ⟨rfl, HG15.out⟩
end Go.Proofs.YtpcbnmpfiepaeaaDoor

/- Rows of an argument, and how much memory they take at most. No condition beyond the row's own. -/
namespace Go.Proofs.YtpcbnmpfiepaeaaDoor
open Go.RowKit
theorem rdw_rowsT {H : Type} {enc : TypeId × Value → H} {W : World} : RdW enc Tryd.prog W 22 1 (fun (x : List (List Vl)) cs => (∃ A c, cs = [.slice A x.length c] ∧ x.length ≤ c ∧ RwsR (PRow W) A x) ∧ (RwsOk x ∧ x.length * 24 ≤ 140737488351232)) :=
  rdw_map (rdw_slice Tryd.underlying22 (by kernel_rfl) (by decide) (bytes := 24) (by kernel_rfl) rdw_row) fun l cs ⟨A, c, css, h1, h2, _, h4, h5, h6⟩ =>
    ⟨⟨A, c, h1, h2, css, h5.each.1, h6⟩, ⟨cap_small h2 (by decide) h4, h5.each.2⟩, by unfold reachBytes at h4; have := Nat.mul_le_mul_right 24 h2; omega⟩
end Go.Proofs.YtpcbnmpfiepaeaaDoor

namespace Go.Proofs.YtpcbnmpfiepaeaaDoor.siftPasses
open Go.RowKit Go.ChangeShapes Go.WideShapes Go.ChangeAt Go.Joins

theorem reads : ∀ t ∈ Tryd.f3.params.toList, Tryd.prog.readableRec t = true ∧ t < Tryd.prog.types.size := by
  rw [Tryd.params3]
  intro t ht
  simp only [List.mem_cons, List.not_mem_nil, or_false] at ht
  rcases ht with rfl | rfl | rfl | rfl | rfl
  all_goals exact ⟨by kernel_rfl, of_decide_eq_true (by kernel_rfl)⟩

/-- The door's own heap meets the condition. -/
theorem door_met (os : Os) (args : Array Value) : laidMetH Tryd.prog Rows.siftPassesRow.laid ((World.doorLaid Tryd.prog 600 os).forCall (fun _ _ => 0) ⟨#[], args, []⟩).memory :=
  laidMetH_of_parts3 (fuel := 8) (laidMet_of_run' 8 (by kernel_rfl) (by kernel_rfl)) (by kernel_rfl) (by kernel_rfl)
/-- What the condition gives a walk: the table of powers. -/
theorem of_laid {W : World} (h : laidMetH Tryd.prog Rows.siftPassesRow.laid W) : Lib.TabIs Tryd.prog W "internal/strconv.uint64pow10" .u64 Lib.pow10Tab := by
  rw [MakeChecks.laidMetH_plain _ _ _ (by kernel_rfl)] at h
  have h2 : laidMet Tryd.prog (("internal/strconv.uint64pow10", Lib.tabData .u64 Lib.pow10Tab) :: []) W := laidMet.tail (laidMet.tail h)
  exact Lib.tabIs_of_head (g := 1) (t := 113) (e := 51) (n := 20) (by kernel_rfl) (by kernel_rfl) (by kernel_rfl) (by kernel_rfl) (by kernel_rfl) (by kernel_rfl) h2
set_option maxRecDepth 100000 in
theorem lifted (os : Os) (started : os.Started) (H : Type) (enc : TypeId × Value → H) :
    ReturnsInHanded {} Tryd.checked os 3 .any (fun w args => (Rows.siftPassesSpec.pre enc Tryd.prog Tryd.f3 [] false w args ∧ laidMetH Tryd.prog Rows.siftPassesRow.laid w) ∧ sizedMet enc Tryd.prog Tryd.f3 (OpenSpec.ofChange Rows.siftPassesSpec) false w args)
      (Rows.siftPassesSpec.post enc Tryd.prog Tryd.f3 false true false false) := by
  refine returnsInHanded_of_change_and (C := Tryd.checked) (X := fun w _ => laidMetH Tryd.prog Rows.siftPassesRow.laid w) (fun _ _ _ hh h => h.of_heap hh) own started (by kernel_rfl) Tryd.func3
    (ChangeSpec.witness_shaped (enc := enc) (C := Tryd.checked) (os := os) (X := fun w _ => laidMetH Tryd.prog Rows.siftPassesRow.laid w) false (World.doorLaid Tryd.prog 600 os) #[.int .i64 0, .int .i64 0, .int .i64 0, .slice none 0 0, .slice none 0 0] 8 rfl (World.shaped_of_RefB (by kernel_rfl) (by kernel_rfl)) (by kernel_rfl) (by kernel_rfl) (by kernel_rfl) (door_met os _)) ?_
  intro W base args ds gs before hval0 hW hcnd hsz0 hL _
  have hval : ∀ (j : Nat) t v, Tryd.f3.params[j]? = some t → args[j]? = some v → Value.okWide Tryd.prog W .any base t v := hval0
  have hW' := hW
  obtain ⟨p, q, hA0, hV, hpq, hfz, hnd⟩ := hW
  have hA : DataW.TrodAll enc Tryd.prog W 0 (fun _ => true) true Tryd.f3.params.toList args.toList ds p := hA0
  rw [Tryd.params3] at hA hval
  obtain ⟨v0, vs0, d0, ds0, p0, q0, hargs, rfl, rfl, h0, r0⟩ := trodAll_cons hA
  obtain ⟨v1, vs1, d1, ds1, p1, q1, rfl, rfl, rfl, h1, r1⟩ := trodAll_cons r0
  obtain ⟨v2, vs2, d2, ds2, p2, q2, rfl, rfl, rfl, h2, r2⟩ := trodAll_cons r1
  obtain ⟨v3, vs3, d3, ds3, p3, q3, rfl, rfl, rfl, h3, r3⟩ := trodAll_cons r2
  obtain ⟨v4, vs4, d4, ds4, p4, q4, rfl, rfl, rfl, h4, r4⟩ := trodAll_cons r3
  obtain ⟨rfl, rfl, rfl⟩ := trodAll_nil r4
  obtain rfl : args = #[v0, v1, v2, v3, v4] := by cases args; simp_all
  obtain ⟨rfl, rfl⟩ := trodVars_none hV
  have hz : (DataW.weightsEach Tryd.prog [3, 3, 3, 22, 23] [d0, d1, d2, d3, d4]).all (· ≤ reachBytes) = true := hsz0
  simp only [DataW.weightsEach, List.all_append, List.append_nil, Bool.and_eq_true] at hz
  obtain ⟨zz0, zz1, zz2, zz3, zz4⟩ := hz
  obtain ⟨seed, rfl, rfl, rfl, wseed⟩ := open_int Tryd.underlying3 (hval 0 3 v0 rfl rfl) h0
  obtain ⟨words, rfl, rfl, rfl, wwords⟩ := open_int Tryd.underlying3 (hval 1 3 v1 rfl rfl) h1
  obtain ⟨nb, rfl, rfl, rfl, wnb⟩ := open_int Tryd.underlying3 (hval 2 3 v2 rfl rfl) h2
  have o3 := rdw_arg_slice Tryd.underlying22 rdw_rowsT (hval 3 22 v3 rfl rfl) h3 zz3
  obtain ⟨keys, ⟨keysA, keysc, ekeys, ckeys, rkeys⟩, kkeys⟩ := o3
  obtain rfl := List.cons.inj ekeys |>.1
  have o4 := rdw_arg_slice Tryd.underlying23 rdw_row (hval 4 23 v4 rfl rfl) h4 zz4
  obtain ⟨key, ⟨keyA, keyc, ekey, ckey, rkey⟩, kkey⟩ := o4
  obtain rfl := List.cons.inj ekey |>.1
  have htab := of_laid hL
  refine (siftPasses_walk seed words nb keys key keysA keyA keysc keyc W kkeys.1 kkey kkeys.2 ckey rkeys rkey htab).mono fun e W' ⟨he, hg⟩ => ?_
  subst he
  exact ⟨_, rfl, law_post hW' rfl rfl Tryd.underlying4 rfl rfl rfl laid_out reads (Grew.below hg)⟩

theorem over : Rows.siftPassesRow.holds Tryd.pinned (OpenSpec.ofChange Rows.siftPassesSpec) :=
  OpenClaim.holds_of_wide 3 Tryd.f3 rfl rfl rfl rfl rfl rfl rfl ⟨rfl, rfl, rfl, rfl, rfl⟩ rfl rfl rfl rfl rfl (by kernel_rfl) Tryd.func3 (by kernel_rfl)
    (of_decide_eq_true (by kernel_rfl)) (by unfold Func.isWrapper; first | (rw [if_pos (by decide +kernel)]; kernel_rfl) | (rw [if_neg (by decide +kernel)]; exact ⟨rfl, rfl⟩))
    (fun os started H enc _ => lifted os started H enc)

theorem proved : Rows.SiftPassesCardSaid :=
  Claim7.holds_tied_plain_at .later [] [.data, .data, .data] true (true, "478a98e2a5c463f226e884fa4179c870f21ab4f62a8810397a3135d25d1cf694") false
    over (fun _ h => by cases h) (by kernel_rfl) (fun _ h => by cases h) siftPasses_row_tie rfl ⟨rfl, rfl⟩ (by kernel_rfl) rfl
    (fun f fn hf hfn => by
      obtain rfl : f = 3 := Option.some.inj ((show Tryd.prog.funcNamed "trommel/trommellaw20.SiftPasses" = some 3 by kernel_rfl).symm.trans hf) |>.symm
      obtain rfl : fn = Tryd.f3 := (Option.some.inj (Tryd.func3.symm.trans hfn)).symm
      exact ⟨by kernel_rfl, fun j t ht => by
        rw [Tryd.params3] at ht
        have hm : t ∈ [3, 3, 3, 22, 23] := by simpa using Array.mem_of_getElem? ht
        have hall : ([3, 3, 3, 22, 23].all fun u => !Tryd.prog.wantsStandIn u) = true := by kernel_rfl
        exact (show Tryd.prog.wantsStandIn t = false by simpa using List.all_eq_true.1 hall t hm)⟩)
    (by kernel_rfl)

end Go.Proofs.YtpcbnmpfiepaeaaDoor.siftPasses
