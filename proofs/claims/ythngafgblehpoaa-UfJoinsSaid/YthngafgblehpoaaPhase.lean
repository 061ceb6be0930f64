/- A region that draws its order, whose one call stands in a chain: what is ahead of it, the call, and the rest, each once. No condition. -/
import Derived.Test.YthngafgblehpoaaKit2
import Derived.Deep.RegionWith
namespace Go.Proofs.Ythngafgblehpoaa
open Go.RowKit
theorem wpAny_rest {P : Program} {md : Region.Mode} {l : List Oper} {Q : Exit → Act → World → Prop} (k : Nat) {fuel : Nat} {listed : Array Bool} {a : Act} {w : World} (hf : fuel = (l.drop k).length) (hs : Region.noSelect l.toArray = true)
    (hB : Region.lexFrom md l.toArray (l.drop k).length k listed = true)
    (h : wpQuiet P l.toArray (fun w' => ∃ x, w' = more w x) (fun a' => ∀ w', (∃ x, w' = more w x) → Q .normal a' w') (l.drop k) a) : wpAny P md l.toArray Q fuel listed a w := by
  subst hf
  exact wpAny_of_quiet (C := fun w' => ∃ x, w' = more w x) (Q := fun a' => ∀ w', (∃ x, w' = more w x) → Q .normal a' w') (fun _ w' hw' h => h w' hw') _ _ _ _ ⟨_, (more_self w).symm⟩
    (wpAnyQ_lex hs (l.drop k) k listed a (fun j => by simp [List.getElem?_drop]) hB h)
end Go.Proofs.Ythngafgblehpoaa
