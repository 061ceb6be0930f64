/- Bounds of numbers and floats that come in, for the laws' frames. No condition. -/
import Derived.Test.YtlnpiemnkpogfaaFrame2
import Derived.Laws.Cover2
namespace Go.Proofs.Ytlnpiemnkpogfaa
theorem wf_f64 {b : Nat} (h : (Lit.float .f64 b).wf = true) : b < 18446744073709551616 := by
  simp [Lit.wf] at h
  exact h
theorem wf_i64 {n : Int} (h : (Lit.int .i64 n).wf = true) : -9223372036854775808 ≤ n ∧ n ≤ 9223372036854775807 := by
  simp [Lit.wf, IntKind.min, IntKind.max, IntKind.bits, IntKind.signed] at h
  exact h
end Go.Proofs.Ytlnpiemnkpogfaa
