/- A region that draws its order, in which two operations may come up at once. No condition. -/
import Derived.Test.YtdohfbpjmnhhmaaHeld
namespace Go.Proofs.Ytdohfbpjmnhhmaa
open Go.RowKit
theorem held_two {P : Program} {ops : Array Oper} {Q : Exit → Act → World → Prop} {wc : World} {S : World → Prop} (i j : Nat) {o o' : Oper} {fuel : Nat} {listed : Array Bool} {a : Act} (hr : Region.ready .any ops listed = [i, j]) (ho : ops[i]? = some o) (ho' : ops[j]? = some o') (hw : Region.wanted o (yielded ops a.tmps) = true) (hw' : Region.wanted o' (yielded ops a.tmps) = true)
    (h : ∀ K' : Act → World → Prop, Hid (∀ a W, S W → wpAnyH P .any ops Q S fuel (listed.setIfInBounds i true) a W → K' a W) → Oper.wp P o a wc K' Q)
    (h' : ∀ K' : Act → World → Prop, Hid (∀ a W, S W → wpAnyH P .any ops Q S fuel (listed.setIfInBounds j true) a W → K' a W) → Oper.wp P o' a wc K' Q) : wpAnyH P .any ops Q S (fuel + 1) listed a wc := by
  refine wpAnyH_ready hr (by simp) (AllReadyH.cons ho (fun K' hK => ?_) (AllReadyH.cons ho' (fun K' hK => ?_) AllReadyH.nil))
  · rw [if_pos hw]
    exact h K' (Lib.hid fun a W hG hW => hK.out a W hG (fun _ => hW))
  · rw [if_pos hw']
    exact h' K' (Lib.hid fun a W hG hW => hK.out a W hG (fun _ => hW))
end Go.Proofs.Ytdohfbpjmnhhmaa
