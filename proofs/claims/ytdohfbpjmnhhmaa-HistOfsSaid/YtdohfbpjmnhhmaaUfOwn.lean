/- Rows of one's own are kept by growth. No condition. -/
import Derived.Test.YtdohfbpjmnhhmaaApp2
namespace Go.Proofs.Ytdohfbpjmnhhmaa
theorem own_grewO {w w' : World} {base : Nat} {e : TypeId} {size n : Nat} {v : Value} {xs : List Value} (h : w.ownsRow base e size v n xs) (g : Grew w w') : w'.ownsRow base e size v n xs := by
  obtain ⟨x, rfl⟩ := g
  exact own_more h x
end Go.Proofs.Ytdohfbpjmnhhmaa
