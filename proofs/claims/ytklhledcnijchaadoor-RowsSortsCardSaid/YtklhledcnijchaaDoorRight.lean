/- Layer 1's functions, more: which values may be, and texts as values. Condition where it stands: a length. -/
import Derived.Test.YtklhledcnijchaaDoorVal
namespace Go.Proofs.YtklhledcnijchaaDoor
open Go.RowKit
attribute [local go_sem] more_cell more_frozen more_more more_size more_setCell

/-- May the value be? -/
def rightV (k i : Int) (s : ByteArray) : Bool := (k == 0 && (i == 0 && s.toList.isEmpty)) || (k == 1 && s.toList.isEmpty) || (k == 2 && (i == 0 && decide ((s.size : Int) ≤ 65536)))

theorem rightV_text {t : ByteArray} (h : t.size ≤ 65536) : rightV 2 0 t = true := by
  have h1 : (t.size : Int) ≤ 65536 := by omega
  simp [rightV, h1]
theorem empty_size {s : ByteArray} (h : s.toList.isEmpty = true) : s.size = 0 := by
  have h1 : s.toList = [] := by simpa using h
  rw [ByteArray.toList_eq] at h1
  have h2 : s.data.toList.length = s.size := by simp
  rw [h1] at h2
  simpa using h2.symm
set_option maxHeartbeats 400000 in
theorem rright_any (k i : Int) (s : ByteArray) (w : World) :
    Gives Tryd.prog 16 #[.agg #[.int .i64 k, .int .i64 i, .string s]] w (.bool (rightV k i s)) := by
  unfold Gives
  go_enter Tryd.func16, Tryd.ntmps16
  go_wp2
  all_goals
    go_ret
    exact ⟨ret_bool (by simp_all [rightV]), (Grew.refl w).alloc _⟩
end Go.Proofs.YtklhledcnijchaaDoor
