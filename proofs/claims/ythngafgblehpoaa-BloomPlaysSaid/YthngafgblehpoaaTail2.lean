/- XTail's regions where the tail waits for the head's last operation, not for each one. No condition. -/
import Derived.Test.YthngafgblehpoaaTail
namespace Go.Proofs.Ythngafgblehpoaa
open Go.RowKit
section
variable {P : Program} {ops : Array Oper} {Q : Exit → Act → World → Prop} {S : World → Prop}
theorem chain_take (i : Nat) {n g : Nat} {oi : Oper} {v : Value} {f : Nat} {listed : Array Bool} {a : Act} {w : World} (hi : ops[i]? = some oi) (hs : Region.noSelect ops = true)
    (hb : (Region.sinkB .any ops n && Region.chainB .any ops n && decide (n < ops.size) && decide (i < n) && invB ops n listed) = true)
    (hf : Region.free .any ops listed i = true) (hr : (Region.ready .any ops listed).contains i = true)
    (hQ : ∀ c a w, Q (.panic c) (a.put oi.dst v) w → Q (.panic c) a w) (hw : Region.wanted oi (yielded ops a.tmps) = true)
    (hy : ∀ W, S W → (execOp a.eval oi).run P W = .ok (.value v) W) (hS : S w)
    (h : wpHeadH P .any ops Q S n (TailT P ops Q n g) f (listed.setIfInBounds i true) (a.put oi.dst v) w) : wpHeadH P .any ops Q S n (TailT P ops Q n g) (f + 1) listed a w := by
  simp only [Bool.and_eq_true, decide_eq_true_eq] at hb
  obtain ⟨⟨⟨⟨b1, b2⟩, b3⟩, b4⟩, b5⟩ := hb
  exact wpHeadH_first hi (Region.noSelect_spec hs) b1 b2 b3 b4 hQ (fun l a w hT j hj => hT.1 j hj) f listed a w (inv_of b5) (Region.free_spec hi hf) (by simpa using hr) (Or.inl ⟨hw, hy⟩) hS h
end
end Go.Proofs.Ythngafgblehpoaa
