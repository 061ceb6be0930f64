/- Layer 1's functions, more: which values may be, and texts as values. Condition where it stands: a length. -/
import Derived.Test.YthmaablodgcgkaaLawVal
namespace Go.Proofs.Ythmaablodgcgkaa
open Go.RowKit
attribute [local go_sem] more_cell more_frozen more_more more_size more_setCell

/-- May the value be? -/
def rightV (k i : Int) (s : ByteArray) : Bool := (k == 0 && (i == 0 && s.toList.isEmpty)) || (k == 1 && s.toList.isEmpty) || (k == 2 && (i == 0 && decide ((s.size : Int) ≤ 65536)))

theorem rightV_text {t : ByteArray} (h : t.size ≤ 65536) : rightV 2 0 t = true := by
  have h1 : (t.size : Int) ≤ 65536 := by omega
  simp [rightV, h1]
theorem empty_size {s : ByteArray} (h : s.toList.isEmpty = true) : s.size = 0 := by
  have h1 : s.toList = [] := by simpa using h
  rw [toList_data] at h1
  have h2 : s.data.toList.length = s.size := by simp
  rw [h1] at h2
  simpa using h2.symm
set_option maxHeartbeats 400000 in
theorem right_any (k i : Int) (s : ByteArray) (w : World) :
    Gives Try.prog 23 #[.agg #[.int .i64 k, .int .i64 i, .string s]] w (.bool (rightV k i s)) := by
  unfold Gives
  by_cases he : s.toList.isEmpty = true
  · have hs := empty_size he
    have hl : s.toList = [] := by simpa using he
    have h1 : (s.size : Int) ≤ 65536 := by omega
    go_enter Try.func23, Try.ntmps23
    go_wp2
    all_goals
      go_ret
      exact ⟨ret_bool (by simp_all [rightV]), (Grew.refl w).alloc _⟩
  · go_enter Try.func23, Try.ntmps23
    go_wp2
    all_goals
      go_ret
      exact ⟨ret_bool (by simp_all [rightV]), (Grew.refl w).alloc _⟩
set_option maxHeartbeats 400000 in
theorem rright_any (k i : Int) (s : ByteArray) (w : World) :
    Gives Try.prog 24 #[.agg #[.int .i64 k, .int .i64 i, .string s]] w (.bool (rightV k i s)) := by
  unfold Gives
  go_enter Try.func24, Try.ntmps24
  go_wp2
  all_goals
    go_ret
    exact ⟨ret_bool (by simp_all [rightV]), (Grew.refl w).alloc _⟩
set_option maxHeartbeats 400000 in
theorem text_any (s : ByteArray) (hs : s.size ≤ 65536) (w : World) :
    Gives Try.prog 21 #[.string s] w (.agg #[.int .i64 2, .int .i64 0, .string s]) := by
  unfold Gives
  have h1 : (s.size : Int) ≤ 65536 := by omega
  go_enter Try.func21, Try.ntmps21
  go_wp2
  exact bodyPost_ret (v := .agg #[.int .i64 2, .int .i64 0, .string s]) (by simp [results, Try.results21, go_sem]) rfl ⟨rfl, (Grew.refl w).alloc _⟩
set_option maxHeartbeats 1000000 in
theorem valMakes_walk (k i : Int) (s : ByteArray) (n : Int) (t : ByteArray) (w : World) :
    Gives Try.prog 4 #[.agg #[.int .i64 k, .int .i64 i, .string s], .int .i64 n, .string t] w (.bool true) := by
  unfold Gives
  have hz : ∀ k i s, sameV k i s k i s = true := fun k i s => by simp [sameV]
  by_cases h1 : 300 < s.size
  · go_enter Try.func4, Try.ntmps4
    go_wp2_with (first | (go_at_call 12; refine (long_any _ _ _ _).mono ?_; rintro e w' ⟨rfl, x, rfl⟩) | (go_at_call 13; refine (live1_any _).mono ?_; rintro e w' ⟨rfl, x, rfl⟩))
    go_ret
    exact ⟨rfl, Grew.more ((Grew.refl w).alloc _) _⟩
  · by_cases h2 : 300 < t.size
    · go_enter Try.func4, Try.ntmps4
      go_wp2_with (first | (go_at_call 12; refine (long_any _ _ _ _).mono ?_; rintro e w' ⟨rfl, x, rfl⟩) | (go_at_call 13; refine (live1_any _).mono ?_; rintro e w' ⟨rfl, x, rfl⟩))
      go_ret
      exact ⟨rfl, Grew.more ((Grew.refl w).alloc _) _⟩
    · have h3 : t.size ≤ 65536 := by omega
      have hr : rightV 2 0 t = true := rightV_text h3
      go_enter Try.func4, Try.ntmps4
      go_wp2_with (first | (go_at_call 12; refine (long_any _ _ _ _).mono ?_; rintro e w' ⟨rfl, x, rfl⟩) | (go_at_call 13; refine (live1_any _).mono ?_; rintro e w' ⟨rfl, x, rfl⟩) | (go_at_call 20; refine (int_any _ _).mono ?_; rintro e w' ⟨rfl, x, rfl⟩) | (go_at_call 21; refine (text_any _ h3 _).mono ?_; rintro e w' ⟨rfl, x, rfl⟩) | (go_at_call 22; refine (null_any _).mono ?_; rintro e w' ⟨rfl, x, rfl⟩) | (go_at_call 19; refine (rsame_any _ _ _ _ _ _ _).mono ?_; rintro e w' ⟨rfl, x, rfl⟩))
      refine wp_region_more (by kernel_rfl) (by kernel_rfl) ?_
      repeat (go_big_quiet_step ((first | (go_at_call 23; exact (right_any _ _ _ _).inside) | (go_at_call 24; exact (rright_any _ _ _ _).inside) | (go_at_call 25; exact (isnull_any _ _ _ _).inside) | (go_at_call 21; exact (text_any _ h3 _).inside) | (go_at_call 13; exact (live1_any _).inside))))
      refine wpQuiet_nil ?_
      rintro _ ⟨z, rfl⟩
      go_wp2
      go_ret
      exact ⟨rfl, Grew.more (Grew.more ((Grew.refl w).alloc _) _) _⟩
end Go.Proofs.Ythmaablodgcgkaa
