/- A region that draws its order, walked in one order: what yields the same in every world that has grown from the region's own is taken first; calls come up one at a time. No condition. -/
import Derived.Test.YtoaciliojdaoaaaKit2
import Derived.Deep.RegionHeld3
import Derived.Lib.Hide
namespace Go.Proofs.Ytoaciliojdaoaaa
open Go.RowKit
theorem Gives.grows {P : Program} {f : FuncId} {args : Array Value} {w : World} {v : Value} (h : Gives P f args w v) : Calls P f args w fun e w' => e = .returned v ∧ Grew w w' := h
section
variable {P : Program} {ops : Array Oper} {Q : Exit → Act → World → Prop} {w wc : World} {S : World → Prop}
theorem wp_region_S (S : World → Prop) {id : Nat} {a : Act} (hm : P.follows .mixedOrders = true)
    (h : wpAnyH P .any ops Q S ops.size (Array.replicate ops.size false) a w.drew) : (Code.region id ops true).wp P Q a w :=
  wp_region_held hm h
theorem wp_region_grew {id : Nat} {a : Act} (hm : P.follows .mixedOrders = true)
    (h : wpAnyH P .any ops Q (fun W => Grew w W) ops.size (Array.replicate ops.size false) a w.drew) : (Code.region id ops true).wp P Q a w :=
  wp_region_held hm h
theorem held_take (i : Nat) {oi : Oper} {v : Value} {fuel : Nat} {listed : Array Bool} {a : Act} (hi : ops[i]? = some oi)
    (hs : Region.noSelect ops = true) (hf : Region.free .any ops listed i = true) (hr : (Region.ready .any ops listed).contains i = true)
    (hQ : ∀ c a w, Q (.panic c) (a.put oi.dst v) w → Q (.panic c) a w) (hw : Region.wanted oi (yielded ops a.tmps) = true)
    (hy : ∀ W, S W → (execOp a.eval oi).run P W = .ok (.value v) W) (hS : S wc)
    (h : wpAnyH P .any ops Q S fuel (listed.setIfInBounds i true) (a.put oi.dst v) wc) : wpAnyH P .any ops Q S (fuel + 1) listed a wc :=
  wpAnyH_take hi hs hf hr hQ (Or.inl ⟨hw, hy⟩) hS h
theorem held_skip (i : Nat) {oi : Oper} {fuel : Nat} {listed : Array Bool} {a : Act} (hi : ops[i]? = some oi)
    (hs : Region.noSelect ops = true) (hf : Region.free .any ops listed i = true) (hr : (Region.ready .any ops listed).contains i = true)
    (hQ : ∀ c a w, Q (.panic c) (a.put oi.dst undef) w → Q (.panic c) a w) (hw : Region.wanted oi (yielded ops a.tmps) = false) (hS : S wc)
    (h : wpAnyH P .any ops Q S fuel (listed.setIfInBounds i true) (a.put oi.dst undef) wc) : wpAnyH P .any ops Q S (fuel + 1) listed a wc :=
  wpAnyH_take hi hs hf hr hQ (Or.inr ⟨hw, rfl⟩) hS h
theorem held_call (i : Nat) {o : Oper} {fuel : Nat} {listed : Array Bool} {a : Act} (hr : Region.ready .any ops listed = [i]) (ho : ops[i]? = some o) (hw : Region.wanted o (yielded ops a.tmps) = true)
    (h : ∀ K' : Act → World → Prop, Hid (∀ a W, S W → wpAnyH P .any ops Q S fuel (listed.setIfInBounds i true) a W → K' a W) → Oper.wp P o a wc K' Q) : wpAnyH P .any ops Q S (fuel + 1) listed a wc := by
  refine wpAnyH_ready hr (by simp) (AllReadyH.cons ho (fun K' hK => ?_) AllReadyH.nil)
  rw [if_pos hw]
  exact h K' (Lib.hid fun a W hG hW => hK.out a W hG (fun _ => hW))
theorem held_norm {fuel : Nat} {listed : Array Bool} {a a' : Act} (ha : a = a') (h : wpAnyH P .any ops Q S fuel listed a' wc) : wpAnyH P .any ops Q S fuel listed a wc := ha ▸ h
theorem held_done {fuel : Nat} {listed : Array Bool} {a : Act} (hr : Region.ready .any ops listed = []) (h : Q .normal a wc) : wpAnyH P .any ops Q S fuel listed a wc := wpAnyH_done hr h fuel
end
end Go.Proofs.Ytoaciliojdaoaaa
