/- Layer 3: values by a sign, and sums: what each call returns. Condition: numbers of 64 bits. -/
import Derived.Test.YtddambfniaiogaaArith2
namespace Go.Proofs.Ytddambfniaiogaa
open Go.RowKit
attribute [local go_sem] more_cell more_frozen more_more more_size more_setCell
attribute [local go_sem ↓] Go.wp_at_zero Go.wp_at_succ

def byI (op a b : Int) : Int := if op = 7 then a + b else if op = 8 then a - b else a * b
def recB (op : Int) : Bool := op == 7 || op == 8 || op == 9
def numB (k : Int) : Bool := k == 1 || k == 0
/-- What a sign makes of two values: its kind, its number, the error. -/
def doOk (op k k' : Int) : Bool := recB op && (numB k && numB k')
def doNull (k k' : Int) : Bool := k == 0 || k' == 0
def doK (op k i k' i' : Int) : Int := if doOk op k k' && (!doNull k k' && fits (byI op i i')) then 1 else 0
def doI (op k i k' i' : Int) : Int := if doOk op k k' && (!doNull k k' && fits (byI op i i')) then byI op i i' else 0
def doE (op k i k' i' : Int) : Int := if doOk op k k' then (if doNull k k' then 0 else if fits (byI op i i') then 0 else 5) else 3

theorem reckoned_any (op : Int) (w : World) : Calls Try.prog 188 #[.int .i64 op] w fun e w' => e = .returned (.bool (recB op)) ∧ w' = w := by
  go_enter Try.func188, Try.ntmps188
  go_wp2
  all_goals
    go_ret
    exact ⟨ret_bool (by simp_all [recB]), rfl⟩
theorem number_any (k i : Int) (s : ByteArray) (w : World) : Gives Try.prog 189 #[.agg #[.int .i64 k, .int .i64 i, .string s]] w (.bool (numB k)) := by
  unfold Gives
  go_enter Try.func189, Try.ntmps189
  go_wp2_with (go_at_call 105; refine (isnull_any _ _ _ _).mono ?_; rintro e w' ⟨rfl, x, rfl⟩)
  all_goals
    go_ret
    exact ⟨ret_bool (by simp_all [numB]), by first | exact Grew.more ((Grew.refl w).alloc _) _ | exact (Grew.refl w).alloc _⟩
set_option maxHeartbeats 400000 in
theorem by_any (op a b : Int) (hop : recB op = true) (ha : isI a) (hb : isI b) (w : World) :
    Gives Try.prog 190 #[.int .i64 op, .int .i64 a, .int .i64 b] w (.tuple #[.int .i64 (fitV (byI op a b)), .bool (fits (byI op a b))]) := by
  unfold Gives
  have HA := Lib.hid ha
  have HB := Lib.hid hb
  clear ha hb
  have h3 : op = 7 ∨ op = 8 ∨ op = 9 := by simpa [recB, or_assoc] using hop
  clear hop
  rcases h3 with rfl | rfl | rfl
  all_goals
    go_enter Try.func190, Try.ntmps190
    go_wp2_with (first | (go_at_call 223; refine (add_any _ _ HA.out HB.out _).mono ?_; rintro e w' ⟨rfl, x, rfl⟩) | (go_at_call 224; refine (sub_any _ _ HA.out HB.out _).mono ?_; rintro e w' ⟨rfl, x, rfl⟩) | (go_at_call 225; refine (mul_any _ _ HA.out HB.out _).mono ?_; rintro e w' ⟨rfl, x, rfl⟩))
    go_ret2
    exact ⟨rfl, _, rfl⟩
theorem num_cases {k : Int} (h : numB k = true) : k = 1 ∨ k = 0 := by simpa [numB] using h
/-- The five ways through. -/
inductive DoWay (op k i k' i' : Int) : Prop where
  | op : recB op = false → DoWay op k i k' i'
  | left : recB op = true → numB k = false → DoWay op k i k' i'
  | right : recB op = true → numB k = true → numB k' = false → DoWay op k i k' i'
  | none0 : recB op = true → k = 0 → numB k' = true → DoWay op k i k' i'
  | none1 : recB op = true → k = 1 → k' = 0 → DoWay op k i k' i'
  | some : recB op = true → k = 1 → k' = 1 → DoWay op k i k' i'
theorem do_way (op k i k' i' : Int) : DoWay op k i k' i' := by
  cases h1 : recB op
  · exact .op h1
  · cases h2 : numB k
    · exact .left h1 h2
    · cases h3 : numB k'
      · exact .right h1 h2 h3
      · rcases num_cases h2 with h | h
        · rcases num_cases h3 with h' | h'
          · exact .some h1 h h'
          · exact .none1 h1 h h'
        · exact .none0 h1 h h3
def doV (a b c : Int) : Value := .tuple #[.agg #[.int .i64 a, .int .i64 b, .string ⟨#[]⟩], .int .i64 c]
set_option maxHeartbeats 1000000 in
theorem do_any (op k i : Int) (s : ByteArray) (k' i' : Int) (s' : ByteArray) (hi : isI i) (hi' : isI i') (w : World) :
    Gives Try.prog 149 #[.int .i64 op, .agg #[.int .i64 k, .int .i64 i, .string s], .agg #[.int .i64 k', .int .i64 i', .string s']] w
      (.tuple #[.agg #[.int .i64 (doK op k i k' i'), .int .i64 (doI op k i k' i'), .string ⟨#[]⟩], .int .i64 (doE op k i k' i')]) := by
  unfold Gives
  have HA := Lib.hid hi
  have HB := Lib.hid hi'
  clear hi hi'
  rcases do_way op k i k' i' with h1 | ⟨h1, h2⟩ | ⟨h1, h2, h3⟩ | ⟨h1, rfl, h3⟩ | ⟨h1, rfl, rfl⟩ | ⟨h1, rfl, rfl⟩
  · have e1 : doK op k i k' i' = 0 := by simp [doK, doOk, h1]
    have e2 : doI op k i k' i' = 0 := by simp [doI, doOk, h1]
    have e3 : doE op k i k' i' = 3 := by simp [doE, doOk, h1]
    rw [e1, e2, e3]
    clear e1 e2 e3
    go_enter Try.func149, Try.ntmps149
    go_wp2_with (first | (go_at_call 188; refine (reckoned_any _ _).mono ?_; rintro e w' ⟨rfl, rfl⟩))
    exact bodyPost_ret (v := .tuple #[.agg #[.int .i64 0, .int .i64 0, .string ⟨#[]⟩], .int .i64 3]) (by simp [results, Try.results149, go_sem]) rfl ⟨rfl, by show Grew w _; repeat (first | exact Grew.refl _ | apply Grew.more | apply Grew.alloc)⟩
  · have e1 : doK op k i k' i' = 0 := by simp [doK, doOk, h1, h2]
    have e2 : doI op k i k' i' = 0 := by simp [doI, doOk, h1, h2]
    have e3 : doE op k i k' i' = 3 := by simp [doE, doOk, h1, h2]
    rw [e1, e2, e3]
    clear e1 e2 e3
    go_enter Try.func149, Try.ntmps149
    go_wp2_with (first | (go_at_call 188; refine (reckoned_any _ _).mono ?_; rintro e w' ⟨rfl, rfl⟩) | (go_at_call 189; refine (number_any _ _ _ _).mono ?_; rintro e w' ⟨rfl, x, rfl⟩))
    exact bodyPost_ret (v := .tuple #[.agg #[.int .i64 0, .int .i64 0, .string ⟨#[]⟩], .int .i64 3]) (by simp [results, Try.results149, go_sem]) rfl ⟨rfl, by show Grew w _; repeat (first | exact Grew.refl _ | apply Grew.more | apply Grew.alloc)⟩
  · have e1 : doK op k i k' i' = 0 := by simp [doK, doOk, h1, h2, h3]
    have e2 : doI op k i k' i' = 0 := by simp [doI, doOk, h1, h2, h3]
    have e3 : doE op k i k' i' = 3 := by simp [doE, doOk, h1, h2, h3]
    rw [e1, e2, e3]
    clear e1 e2 e3
    go_enter Try.func149, Try.ntmps149
    go_wp2_with (first | (go_at_call 188; refine (reckoned_any _ _).mono ?_; rintro e w' ⟨rfl, rfl⟩) | (go_at_call 189; refine (number_any _ _ _ _).mono ?_; rintro e w' ⟨rfl, x, rfl⟩))
    exact bodyPost_ret (v := .tuple #[.agg #[.int .i64 0, .int .i64 0, .string ⟨#[]⟩], .int .i64 3]) (by simp [results, Try.results149, go_sem]) rfl ⟨rfl, by show Grew w _; repeat (first | exact Grew.refl _ | apply Grew.more | apply Grew.alloc)⟩
  · have h2 : numB 0 = true := rfl
    have e1 : doK op 0 i k' i' = 0 := by simp [doK, doNull]
    have e2 : doI op 0 i k' i' = 0 := by simp [doI, doNull]
    have e3 : doE op 0 i k' i' = 0 := by simp [doE, doOk, doNull, h1, h2, h3]
    rw [e1, e2, e3]
    clear e1 e2 e3
    go_enter Try.func149, Try.ntmps149
    go_wp2_with (first | (go_at_call 188; refine (reckoned_any _ _).mono ?_; rintro e w' ⟨rfl, rfl⟩) | (go_at_call 189; refine (number_any _ _ _ _).mono ?_; rintro e w' ⟨rfl, x, rfl⟩) | (go_at_call 105; refine (isnull_any _ _ _ _).mono ?_; rintro e w' ⟨rfl, x, rfl⟩) | (go_at_call 90; refine (null_any _).mono ?_; rintro e w' ⟨rfl, x, rfl⟩))
    exact bodyPost_ret (v := .tuple #[.agg #[.int .i64 0, .int .i64 0, .string ⟨#[]⟩], .int .i64 0]) (by simp [results, Try.results149, go_sem]) rfl ⟨rfl, by show Grew w _; repeat (first | exact Grew.refl _ | apply Grew.more | apply Grew.alloc)⟩
  · have h2 : numB 0 = true := rfl
    have h3 : numB 1 = true := rfl
    have e1 : doK op 1 i 0 i' = 0 := by simp [doK, doNull]
    have e2 : doI op 1 i 0 i' = 0 := by simp [doI, doNull]
    have e3 : doE op 1 i 0 i' = 0 := by simp [doE, doOk, doNull, h1, h2, h3]
    rw [e1, e2, e3]
    clear e1 e2 e3
    go_enter Try.func149, Try.ntmps149
    go_wp2_with (first | (go_at_call 188; refine (reckoned_any _ _).mono ?_; rintro e w' ⟨rfl, rfl⟩) | (go_at_call 189; refine (number_any _ _ _ _).mono ?_; rintro e w' ⟨rfl, x, rfl⟩) | (go_at_call 105; refine (isnull_any _ _ _ _).mono ?_; rintro e w' ⟨rfl, x, rfl⟩) | (go_at_call 90; refine (null_any _).mono ?_; rintro e w' ⟨rfl, x, rfl⟩))
    exact bodyPost_ret (v := .tuple #[.agg #[.int .i64 0, .int .i64 0, .string ⟨#[]⟩], .int .i64 0]) (by simp [results, Try.results149, go_sem]) rfl ⟨rfl, by show Grew w _; repeat (first | exact Grew.refl _ | apply Grew.more | apply Grew.alloc)⟩
  · have h3 : numB 1 = true := rfl
    have HO := Lib.hid h1
    cases hf : fits (byI op i i')
    · have e1 : doK op 1 i 1 i' = 0 := by simp [doK, hf]
      have e2 : doI op 1 i 1 i' = 0 := by simp [doI, hf]
      have e3 : doE op 1 i 1 i' = 5 := by simp [doE, doOk, doNull, h1, h3, hf]
      rw [e1, e2, e3]
      clear e1 e2 e3
      go_enter Try.func149, Try.ntmps149
      go_wp2_with (first | (go_at_call 188; refine (reckoned_any _ _).mono ?_; rintro e w' ⟨rfl, rfl⟩) | (go_at_call 189; refine (number_any _ _ _ _).mono ?_; rintro e w' ⟨rfl, x, rfl⟩) | (go_at_call 105; refine (isnull_any _ _ _ _).mono ?_; rintro e w' ⟨rfl, x, rfl⟩) | (go_at_call 190; refine (by_any _ _ _ HO.out HA.out HB.out _).mono ?_; rintro e w' ⟨rfl, x, rfl⟩))
      exact bodyPost_ret (v := .tuple #[.agg #[.int .i64 0, .int .i64 0, .string ⟨#[]⟩], .int .i64 5]) (by simp [results, Try.results149, go_sem]) rfl ⟨rfl, by show Grew w _; repeat (first | exact Grew.refl _ | apply Grew.more | apply Grew.alloc)⟩
    · have e1 : doK op 1 i 1 i' = 1 := by simp [doK, doOk, doNull, h1, h3, hf]
      have e2 : doI op 1 i 1 i' = fitV (byI op i i') := by simp [doI, doOk, doNull, h1, h3, hf, fitV]
      have e3 : doE op 1 i 1 i' = 0 := by simp [doE, doOk, doNull, h1, h3, hf]
      rw [e1, e2, e3]
      clear e1 e2 e3
      go_enter Try.func149, Try.ntmps149
      go_wp2_with (first | (go_at_call 188; refine (reckoned_any _ _).mono ?_; rintro e w' ⟨rfl, rfl⟩) | (go_at_call 189; refine (number_any _ _ _ _).mono ?_; rintro e w' ⟨rfl, x, rfl⟩) | (go_at_call 105; refine (isnull_any _ _ _ _).mono ?_; rintro e w' ⟨rfl, x, rfl⟩) | (go_at_call 190; refine (by_any _ _ _ HO.out HA.out HB.out _).mono ?_; rintro e w' ⟨rfl, x, rfl⟩) | (go_at_call 167; refine (int_any _ _).mono ?_; rintro e w' ⟨rfl, x, rfl⟩))
      exact bodyPost_ret (v := .tuple #[.agg #[.int .i64 1, .int .i64 (fitV (byI op i i')), .string ⟨#[]⟩], .int .i64 0]) (by simp [results, Try.results149, go_sem]) rfl ⟨rfl, by show Grew w _; repeat (first | exact Grew.refl _ | apply Grew.more | apply Grew.alloc)⟩
end Go.Proofs.Ytddambfniaiogaa
