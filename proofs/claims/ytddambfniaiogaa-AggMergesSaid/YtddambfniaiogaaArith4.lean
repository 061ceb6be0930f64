/- Layer 3: the document's own answer for values by a sign. Condition: numbers of 64 bits. -/
import Derived.Test.YtddambfniaiogaaArith3
namespace Go.Proofs.Ytddambfniaiogaa
open Go.RowKit
attribute [local go_sem] more_cell more_frozen more_more more_size more_setCell
attribute [local go_sem ↓] Go.wp_at_zero Go.wp_at_succ

/-- The ways through the document's own answer. -/
inductive RDoWay (op k k' : Int) : Prop where
  | op0 : op < 7 → RDoWay op k k'
  | op1 : 9 < op → RDoWay op k k'
  | left0 : 7 ≤ op → op ≤ 9 → k < 0 → RDoWay op k k'
  | left1 : 7 ≤ op → op ≤ 9 → 1 < k → RDoWay op k k'
  | right0 : 7 ≤ op → op ≤ 9 → 0 ≤ k → k ≤ 1 → k' < 0 → RDoWay op k k'
  | right1 : 7 ≤ op → op ≤ 9 → 0 ≤ k → k ≤ 1 → 1 < k' → RDoWay op k k'
  | none0 : 7 ≤ op → op ≤ 9 → k = 0 → 0 ≤ k' → k' ≤ 1 → RDoWay op k k'
  | none1 : 7 ≤ op → op ≤ 9 → k = 1 → k' = 0 → RDoWay op k k'
  | add : op = 7 → k = 1 → k' = 1 → RDoWay op k k'
  | sub : op = 8 → k = 1 → k' = 1 → RDoWay op k k'
  | mul : op = 9 → k = 1 → k' = 1 → RDoWay op k k'
theorem rdo_way (op k k' : Int) : RDoWay op k k' := by
  by_cases h1 : op < 7
  · exact .op0 h1
  by_cases h2 : 9 < op
  · exact .op1 h2
  by_cases h3 : k < 0
  · exact .left0 (by omega) (by omega) h3
  by_cases h4 : 1 < k
  · exact .left1 (by omega) (by omega) h4
  by_cases h5 : k' < 0
  · exact .right0 (by omega) (by omega) (by omega) (by omega) h5
  by_cases h6 : 1 < k'
  · exact .right1 (by omega) (by omega) (by omega) (by omega) h6
  by_cases h7 : k = 0
  · exact .none0 (by omega) (by omega) h7 (by omega) (by omega)
  by_cases h8 : k' = 0
  · exact .none1 (by omega) (by omega) (by omega) h8
  by_cases h9 : op = 7
  · exact .add h9 (by omega) (by omega)
  by_cases h10 : op = 8
  · exact .sub h10 (by omega) (by omega)
  · exact .mul (by omega) (by omega) (by omega)
theorem recB_iff (op : Int) : recB op = decide (7 ≤ op ∧ op ≤ 9) := by
  rw [Bool.eq_iff_iff]
  simp only [recB, Bool.or_eq_true, beq_iff_eq, decide_eq_true_eq]
  omega
theorem numB_iff (k : Int) : numB k = decide (0 ≤ k ∧ k ≤ 1) := by
  rw [Bool.eq_iff_iff]
  simp only [numB, Bool.or_eq_true, beq_iff_eq, decide_eq_true_eq]
  omega
/-- Not two numbers or nulls by a sign: the error. -/
theorem do_bad {op k i k' i' : Int} (h : doOk op k k' = false) : doK op k i k' i' = 0 ∧ doI op k i k' i' = 0 ∧ doE op k i k' i' = 3 := by simp [doK, doI, doE, h]
theorem do_null {op k i k' i' : Int} (h : doOk op k k' = true) (hn : doNull k k' = true) : doK op k i k' i' = 0 ∧ doI op k i k' i' = 0 ∧ doE op k i k' i' = 0 := by simp [doK, doI, doE, h, hn]
theorem do_some {op k i k' i' : Int} (h : doOk op k k' = true) (hn : doNull k k' = false) (hf : fits (byI op i i') = true) : doK op k i k' i' = 1 ∧ doI op k i k' i' = fitV (byI op i i') ∧ doE op k i k' i' = 0 := by simp [doK, doI, doE, h, hn, hf, fitV]
theorem do_over {op k i k' i' : Int} (h : doOk op k k' = true) (hn : doNull k k' = false) (hf : fits (byI op i i') = false) : doK op k i k' i' = 0 ∧ doI op k i k' i' = 0 ∧ doE op k i k' i' = 5 := by simp [doK, doI, doE, h, hn, hf]
theorem ok_of {op k k' : Int} (h1 : 7 ≤ op) (h2 : op ≤ 9) (h3 : 0 ≤ k) (h4 : k ≤ 1) (h5 : 0 ≤ k') (h6 : k' ≤ 1) : doOk op k k' = true := by simp [doOk, recB_iff, numB_iff, h1, h2, h3, h4, h5, h6]

section
variable (op k i : Int) (s : ByteArray) (k' i' : Int) (s' : ByteArray) (w : World)
set_option maxHeartbeats 1000000 in
theorem rdo_op0 (h : op < 7) : Calls Try.prog 89 #[.int .i64 op, .agg #[.int .i64 k, .int .i64 i, .string s], .agg #[.int .i64 k', .int .i64 i', .string s']] w fun e w' =>
    e = .returned (.tuple #[.agg #[.int .i64 0, .int .i64 0, .string ⟨#[]⟩], .int .i64 3]) ∧ ∃ x, w' = more w x := by
  go_enter Try.func89, Try.ntmps89
  go_wp2
  exact bodyPost_ret (v := .tuple #[.agg #[.int .i64 0, .int .i64 0, .string ⟨#[]⟩], .int .i64 3]) (by simp [results, Try.results89, go_sem]) rfl ⟨rfl, by show Grew w _; repeat (first | exact Grew.refl _ | apply Grew.more | apply Grew.alloc)⟩
set_option maxHeartbeats 1000000 in
theorem rdo_op1 (h : 9 < op) : Calls Try.prog 89 #[.int .i64 op, .agg #[.int .i64 k, .int .i64 i, .string s], .agg #[.int .i64 k', .int .i64 i', .string s']] w fun e w' =>
    e = .returned (.tuple #[.agg #[.int .i64 0, .int .i64 0, .string ⟨#[]⟩], .int .i64 3]) ∧ ∃ x, w' = more w x := by
  go_enter Try.func89, Try.ntmps89
  go_wp2
  exact bodyPost_ret (v := .tuple #[.agg #[.int .i64 0, .int .i64 0, .string ⟨#[]⟩], .int .i64 3]) (by simp [results, Try.results89, go_sem]) rfl ⟨rfl, by show Grew w _; repeat (first | exact Grew.refl _ | apply Grew.more | apply Grew.alloc)⟩
set_option maxHeartbeats 1000000 in
theorem rdo_left0 (h1 : 7 ≤ op) (h2 : op ≤ 9) (h : k < 0) : Calls Try.prog 89 #[.int .i64 op, .agg #[.int .i64 k, .int .i64 i, .string s], .agg #[.int .i64 k', .int .i64 i', .string s']] w fun e w' =>
    e = .returned (.tuple #[.agg #[.int .i64 0, .int .i64 0, .string ⟨#[]⟩], .int .i64 3]) ∧ ∃ x, w' = more w x := by
  go_enter Try.func89, Try.ntmps89
  go_wp2
  exact bodyPost_ret (v := .tuple #[.agg #[.int .i64 0, .int .i64 0, .string ⟨#[]⟩], .int .i64 3]) (by simp [results, Try.results89, go_sem]) rfl ⟨rfl, by show Grew w _; repeat (first | exact Grew.refl _ | apply Grew.more | apply Grew.alloc)⟩
set_option maxHeartbeats 1000000 in
theorem rdo_left1 (h1 : 7 ≤ op) (h2 : op ≤ 9) (h : 1 < k) : Calls Try.prog 89 #[.int .i64 op, .agg #[.int .i64 k, .int .i64 i, .string s], .agg #[.int .i64 k', .int .i64 i', .string s']] w fun e w' =>
    e = .returned (.tuple #[.agg #[.int .i64 0, .int .i64 0, .string ⟨#[]⟩], .int .i64 3]) ∧ ∃ x, w' = more w x := by
  go_enter Try.func89, Try.ntmps89
  go_wp2
  exact bodyPost_ret (v := .tuple #[.agg #[.int .i64 0, .int .i64 0, .string ⟨#[]⟩], .int .i64 3]) (by simp [results, Try.results89, go_sem]) rfl ⟨rfl, by show Grew w _; repeat (first | exact Grew.refl _ | apply Grew.more | apply Grew.alloc)⟩
set_option maxHeartbeats 1000000 in
theorem rdo_right0 (h1 : 7 ≤ op) (h2 : op ≤ 9) (h3 : 0 ≤ k) (h4 : k ≤ 1) (h : k' < 0) : Calls Try.prog 89 #[.int .i64 op, .agg #[.int .i64 k, .int .i64 i, .string s], .agg #[.int .i64 k', .int .i64 i', .string s']] w fun e w' =>
    e = .returned (.tuple #[.agg #[.int .i64 0, .int .i64 0, .string ⟨#[]⟩], .int .i64 3]) ∧ ∃ x, w' = more w x := by
  go_enter Try.func89, Try.ntmps89
  go_wp2
  exact bodyPost_ret (v := .tuple #[.agg #[.int .i64 0, .int .i64 0, .string ⟨#[]⟩], .int .i64 3]) (by simp [results, Try.results89, go_sem]) rfl ⟨rfl, by show Grew w _; repeat (first | exact Grew.refl _ | apply Grew.more | apply Grew.alloc)⟩
set_option maxHeartbeats 1000000 in
theorem rdo_right1 (h1 : 7 ≤ op) (h2 : op ≤ 9) (h3 : 0 ≤ k) (h4 : k ≤ 1) (h : 1 < k') : Calls Try.prog 89 #[.int .i64 op, .agg #[.int .i64 k, .int .i64 i, .string s], .agg #[.int .i64 k', .int .i64 i', .string s']] w fun e w' =>
    e = .returned (.tuple #[.agg #[.int .i64 0, .int .i64 0, .string ⟨#[]⟩], .int .i64 3]) ∧ ∃ x, w' = more w x := by
  go_enter Try.func89, Try.ntmps89
  go_wp2
  exact bodyPost_ret (v := .tuple #[.agg #[.int .i64 0, .int .i64 0, .string ⟨#[]⟩], .int .i64 3]) (by simp [results, Try.results89, go_sem]) rfl ⟨rfl, by show Grew w _; repeat (first | exact Grew.refl _ | apply Grew.more | apply Grew.alloc)⟩
set_option maxHeartbeats 1000000 in
theorem rdo_none0 (h1 : 7 ≤ op) (h2 : op ≤ 9) (h3 : 0 ≤ k') (h4 : k' ≤ 1) : Calls Try.prog 89 #[.int .i64 op, .agg #[.int .i64 0, .int .i64 i, .string s], .agg #[.int .i64 k', .int .i64 i', .string s']] w fun e w' =>
    e = .returned (.tuple #[.agg #[.int .i64 0, .int .i64 0, .string ⟨#[]⟩], .int .i64 0]) ∧ ∃ x, w' = more w x := by
  go_enter Try.func89, Try.ntmps89
  go_wp2
  exact bodyPost_ret (v := .tuple #[.agg #[.int .i64 0, .int .i64 0, .string ⟨#[]⟩], .int .i64 0]) (by simp [results, Try.results89, go_sem]) rfl ⟨rfl, by show Grew w _; repeat (first | exact Grew.refl _ | apply Grew.more | apply Grew.alloc)⟩
set_option maxHeartbeats 1000000 in
theorem rdo_none1 (h1 : 7 ≤ op) (h2 : op ≤ 9) : Calls Try.prog 89 #[.int .i64 op, .agg #[.int .i64 1, .int .i64 i, .string s], .agg #[.int .i64 0, .int .i64 i', .string s']] w fun e w' =>
    e = .returned (.tuple #[.agg #[.int .i64 0, .int .i64 0, .string ⟨#[]⟩], .int .i64 0]) ∧ ∃ x, w' = more w x := by
  go_enter Try.func89, Try.ntmps89
  go_wp2
  exact bodyPost_ret (v := .tuple #[.agg #[.int .i64 0, .int .i64 0, .string ⟨#[]⟩], .int .i64 0]) (by simp [results, Try.results89, go_sem]) rfl ⟨rfl, by show Grew w _; repeat (first | exact Grew.refl _ | apply Grew.more | apply Grew.alloc)⟩
set_option maxHeartbeats 1000000 in
theorem rdo_add_yes (HA : Hid (isI i)) (HB : Hid (isI i')) (hf : fits (i + i') = true) : Calls Try.prog 89 #[.int .i64 7, .agg #[.int .i64 1, .int .i64 i, .string s], .agg #[.int .i64 1, .int .i64 i', .string s']] w fun e w' =>
    e = .returned (.tuple #[.agg #[.int .i64 1, .int .i64 (fitV (i + i')), .string ⟨#[]⟩], .int .i64 0]) ∧ ∃ x, w' = more w x := by
  go_enter Try.func89, Try.ntmps89
  go_wp2_with (first | (go_at_call 150; refine (radd_any _ _ HA.out HB.out _).mono ?_; rintro e w' ⟨rfl, x, rfl⟩) | (go_at_call 151; refine (rsub_any _ _ HA.out HB.out _).mono ?_; rintro e w' ⟨rfl, x, rfl⟩) | (go_at_call 152; refine (rmul_any _ _ HA.out HB.out _).mono ?_; rintro e w' ⟨rfl, x, rfl⟩))
  exact bodyPost_ret (v := .tuple #[.agg #[.int .i64 1, .int .i64 (fitV (i + i')), .string ⟨#[]⟩], .int .i64 0]) (by simp [results, Try.results89, go_sem]) rfl ⟨rfl, by show Grew w _; repeat (first | exact Grew.refl _ | apply Grew.more | apply Grew.alloc)⟩
set_option maxHeartbeats 1000000 in
theorem rdo_add_no (HA : Hid (isI i)) (HB : Hid (isI i')) (hf : fits (i + i') = false) : Calls Try.prog 89 #[.int .i64 7, .agg #[.int .i64 1, .int .i64 i, .string s], .agg #[.int .i64 1, .int .i64 i', .string s']] w fun e w' =>
    e = .returned (.tuple #[.agg #[.int .i64 0, .int .i64 0, .string ⟨#[]⟩], .int .i64 5]) ∧ ∃ x, w' = more w x := by
  go_enter Try.func89, Try.ntmps89
  go_wp2_with (first | (go_at_call 150; refine (radd_any _ _ HA.out HB.out _).mono ?_; rintro e w' ⟨rfl, x, rfl⟩) | (go_at_call 151; refine (rsub_any _ _ HA.out HB.out _).mono ?_; rintro e w' ⟨rfl, x, rfl⟩) | (go_at_call 152; refine (rmul_any _ _ HA.out HB.out _).mono ?_; rintro e w' ⟨rfl, x, rfl⟩))
  exact bodyPost_ret (v := .tuple #[.agg #[.int .i64 0, .int .i64 0, .string ⟨#[]⟩], .int .i64 5]) (by simp [results, Try.results89, go_sem]) rfl ⟨rfl, by show Grew w _; repeat (first | exact Grew.refl _ | apply Grew.more | apply Grew.alloc)⟩
set_option maxHeartbeats 1000000 in
theorem rdo_sub_yes (HA : Hid (isI i)) (HB : Hid (isI i')) (hf : fits (i - i') = true) : Calls Try.prog 89 #[.int .i64 8, .agg #[.int .i64 1, .int .i64 i, .string s], .agg #[.int .i64 1, .int .i64 i', .string s']] w fun e w' =>
    e = .returned (.tuple #[.agg #[.int .i64 1, .int .i64 (fitV (i - i')), .string ⟨#[]⟩], .int .i64 0]) ∧ ∃ x, w' = more w x := by
  go_enter Try.func89, Try.ntmps89
  go_wp2_with (first | (go_at_call 150; refine (radd_any _ _ HA.out HB.out _).mono ?_; rintro e w' ⟨rfl, x, rfl⟩) | (go_at_call 151; refine (rsub_any _ _ HA.out HB.out _).mono ?_; rintro e w' ⟨rfl, x, rfl⟩) | (go_at_call 152; refine (rmul_any _ _ HA.out HB.out _).mono ?_; rintro e w' ⟨rfl, x, rfl⟩))
  exact bodyPost_ret (v := .tuple #[.agg #[.int .i64 1, .int .i64 (fitV (i - i')), .string ⟨#[]⟩], .int .i64 0]) (by simp [results, Try.results89, go_sem]) rfl ⟨rfl, by show Grew w _; repeat (first | exact Grew.refl _ | apply Grew.more | apply Grew.alloc)⟩
set_option maxHeartbeats 1000000 in
theorem rdo_sub_no (HA : Hid (isI i)) (HB : Hid (isI i')) (hf : fits (i - i') = false) : Calls Try.prog 89 #[.int .i64 8, .agg #[.int .i64 1, .int .i64 i, .string s], .agg #[.int .i64 1, .int .i64 i', .string s']] w fun e w' =>
    e = .returned (.tuple #[.agg #[.int .i64 0, .int .i64 0, .string ⟨#[]⟩], .int .i64 5]) ∧ ∃ x, w' = more w x := by
  go_enter Try.func89, Try.ntmps89
  go_wp2_with (first | (go_at_call 150; refine (radd_any _ _ HA.out HB.out _).mono ?_; rintro e w' ⟨rfl, x, rfl⟩) | (go_at_call 151; refine (rsub_any _ _ HA.out HB.out _).mono ?_; rintro e w' ⟨rfl, x, rfl⟩) | (go_at_call 152; refine (rmul_any _ _ HA.out HB.out _).mono ?_; rintro e w' ⟨rfl, x, rfl⟩))
  exact bodyPost_ret (v := .tuple #[.agg #[.int .i64 0, .int .i64 0, .string ⟨#[]⟩], .int .i64 5]) (by simp [results, Try.results89, go_sem]) rfl ⟨rfl, by show Grew w _; repeat (first | exact Grew.refl _ | apply Grew.more | apply Grew.alloc)⟩
set_option maxHeartbeats 1000000 in
theorem rdo_mul_yes (HA : Hid (isI i)) (HB : Hid (isI i')) (hf : fits (i * i') = true) : Calls Try.prog 89 #[.int .i64 9, .agg #[.int .i64 1, .int .i64 i, .string s], .agg #[.int .i64 1, .int .i64 i', .string s']] w fun e w' =>
    e = .returned (.tuple #[.agg #[.int .i64 1, .int .i64 (fitV (i * i')), .string ⟨#[]⟩], .int .i64 0]) ∧ ∃ x, w' = more w x := by
  go_enter Try.func89, Try.ntmps89
  go_wp2_with (first | (go_at_call 150; refine (radd_any _ _ HA.out HB.out _).mono ?_; rintro e w' ⟨rfl, x, rfl⟩) | (go_at_call 151; refine (rsub_any _ _ HA.out HB.out _).mono ?_; rintro e w' ⟨rfl, x, rfl⟩) | (go_at_call 152; refine (rmul_any _ _ HA.out HB.out _).mono ?_; rintro e w' ⟨rfl, x, rfl⟩))
  exact bodyPost_ret (v := .tuple #[.agg #[.int .i64 1, .int .i64 (fitV (i * i')), .string ⟨#[]⟩], .int .i64 0]) (by simp [results, Try.results89, go_sem]) rfl ⟨rfl, by show Grew w _; repeat (first | exact Grew.refl _ | apply Grew.more | apply Grew.alloc)⟩
set_option maxHeartbeats 1000000 in
theorem rdo_mul_no (HA : Hid (isI i)) (HB : Hid (isI i')) (hf : fits (i * i') = false) : Calls Try.prog 89 #[.int .i64 9, .agg #[.int .i64 1, .int .i64 i, .string s], .agg #[.int .i64 1, .int .i64 i', .string s']] w fun e w' =>
    e = .returned (.tuple #[.agg #[.int .i64 0, .int .i64 0, .string ⟨#[]⟩], .int .i64 5]) ∧ ∃ x, w' = more w x := by
  go_enter Try.func89, Try.ntmps89
  go_wp2_with (first | (go_at_call 150; refine (radd_any _ _ HA.out HB.out _).mono ?_; rintro e w' ⟨rfl, x, rfl⟩) | (go_at_call 151; refine (rsub_any _ _ HA.out HB.out _).mono ?_; rintro e w' ⟨rfl, x, rfl⟩) | (go_at_call 152; refine (rmul_any _ _ HA.out HB.out _).mono ?_; rintro e w' ⟨rfl, x, rfl⟩))
  exact bodyPost_ret (v := .tuple #[.agg #[.int .i64 0, .int .i64 0, .string ⟨#[]⟩], .int .i64 5]) (by simp [results, Try.results89, go_sem]) rfl ⟨rfl, by show Grew w _; repeat (first | exact Grew.refl _ | apply Grew.more | apply Grew.alloc)⟩
end
theorem rdo_any (op k i : Int) (s : ByteArray) (k' i' : Int) (s' : ByteArray) (hi : isI i) (hi' : isI i') (w : World) :
    Gives Try.prog 89 #[.int .i64 op, .agg #[.int .i64 k, .int .i64 i, .string s], .agg #[.int .i64 k', .int .i64 i', .string s']] w
      (.tuple #[.agg #[.int .i64 (doK op k i k' i'), .int .i64 (doI op k i k' i'), .string ⟨#[]⟩], .int .i64 (doE op k i k' i')]) := by
  unfold Gives
  rcases rdo_way op k k' with h | h | ⟨h1, h2, h⟩ | ⟨h1, h2, h⟩ | ⟨h1, h2, h3, h4, h⟩ | ⟨h1, h2, h3, h4, h⟩ | ⟨h1, h2, rfl, h3, h4⟩ | ⟨h1, h2, rfl, rfl⟩ | ⟨rfl, rfl, rfl⟩ | ⟨rfl, rfl, rfl⟩ | ⟨rfl, rfl, rfl⟩
  · obtain ⟨e1, e2, e3⟩ := do_bad (i := i) (i' := i') (show doOk op k k' = false by simp [doOk, recB_iff]; omega)
    rw [e1, e2, e3]
    exact rdo_op0 op k i s k' i' s' w h
  · obtain ⟨e1, e2, e3⟩ := do_bad (i := i) (i' := i') (show doOk op k k' = false by simp [doOk, recB_iff]; omega)
    rw [e1, e2, e3]
    exact rdo_op1 op k i s k' i' s' w h
  · obtain ⟨e1, e2, e3⟩ := do_bad (i := i) (i' := i') (show doOk op k k' = false by simp [doOk, recB_iff, numB_iff]; omega)
    rw [e1, e2, e3]
    exact rdo_left0 op k i s k' i' s' w h1 h2 h
  · obtain ⟨e1, e2, e3⟩ := do_bad (i := i) (i' := i') (show doOk op k k' = false by simp [doOk, recB_iff, numB_iff]; omega)
    rw [e1, e2, e3]
    exact rdo_left1 op k i s k' i' s' w h1 h2 h
  · obtain ⟨e1, e2, e3⟩ := do_bad (i := i) (i' := i') (show doOk op k k' = false by simp [doOk, recB_iff, numB_iff]; omega)
    rw [e1, e2, e3]
    exact rdo_right0 op k i s k' i' s' w h1 h2 h3 h4 h
  · obtain ⟨e1, e2, e3⟩ := do_bad (i := i) (i' := i') (show doOk op k k' = false by simp [doOk, recB_iff, numB_iff]; omega)
    rw [e1, e2, e3]
    exact rdo_right1 op k i s k' i' s' w h1 h2 h3 h4 h
  · obtain ⟨e1, e2, e3⟩ := do_null (i := i) (i' := i') (ok_of h1 h2 (by omega) (by omega) h3 h4) (show doNull 0 k' = true by simp [doNull])
    rw [e1, e2, e3]
    exact rdo_none0 op i s k' i' s' w h1 h2 h3 h4
  · obtain ⟨e1, e2, e3⟩ := do_null (i := i) (i' := i') (ok_of h1 h2 (by omega) (by omega) (by omega) (by omega)) (show doNull 1 0 = true by rfl)
    rw [e1, e2, e3]
    exact rdo_none1 op i s i' s' w h1 h2
  · have eb : byI 7 i i' = i + i' := by simp [byI]
    cases hf : fits (byI 7 i i')
    · obtain ⟨e1, e2, e3⟩ := do_over (i := i) (i' := i') (ok_of (op := 7) (k := 1) (k' := 1) (by omega) (by omega) (by omega) (by omega) (by omega) (by omega)) rfl hf
      rw [e1, e2, e3]
      exact rdo_add_no i s i' s' w hi hi' (by rw [← eb]; exact hf)
    · obtain ⟨e1, e2, e3⟩ := do_some (i := i) (i' := i') (ok_of (op := 7) (k := 1) (k' := 1) (by omega) (by omega) (by omega) (by omega) (by omega) (by omega)) rfl hf
      rw [e1, e2, e3, eb]
      exact rdo_add_yes i s i' s' w hi hi' (by rw [← eb]; exact hf)
  · have eb : byI 8 i i' = i - i' := by simp [byI]
    cases hf : fits (byI 8 i i')
    · obtain ⟨e1, e2, e3⟩ := do_over (i := i) (i' := i') (ok_of (op := 8) (k := 1) (k' := 1) (by omega) (by omega) (by omega) (by omega) (by omega) (by omega)) rfl hf
      rw [e1, e2, e3]
      exact rdo_sub_no i s i' s' w hi hi' (by rw [← eb]; exact hf)
    · obtain ⟨e1, e2, e3⟩ := do_some (i := i) (i' := i') (ok_of (op := 8) (k := 1) (k' := 1) (by omega) (by omega) (by omega) (by omega) (by omega) (by omega)) rfl hf
      rw [e1, e2, e3, eb]
      exact rdo_sub_yes i s i' s' w hi hi' (by rw [← eb]; exact hf)
  · have eb : byI 9 i i' = i * i' := by simp [byI]
    cases hf : fits (byI 9 i i')
    · obtain ⟨e1, e2, e3⟩ := do_over (i := i) (i' := i') (ok_of (op := 9) (k := 1) (k' := 1) (by omega) (by omega) (by omega) (by omega) (by omega) (by omega)) rfl hf
      rw [e1, e2, e3]
      exact rdo_mul_no i s i' s' w hi hi' (by rw [← eb]; exact hf)
    · obtain ⟨e1, e2, e3⟩ := do_some (i := i) (i' := i') (ok_of (op := 9) (k := 1) (k' := 1) (by omega) (by omega) (by omega) (by omega) (by omega) (by omega)) rfl hf
      rw [e1, e2, e3, eb]
      exact rdo_mul_yes i s i' s' w hi hi' (by rw [← eb]; exact hf)
end Go.Proofs.Ytddambfniaiogaa
