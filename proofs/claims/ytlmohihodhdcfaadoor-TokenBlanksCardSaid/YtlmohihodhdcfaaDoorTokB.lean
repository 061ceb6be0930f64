/- Layer 7: blanks ahead of a text, and behind it, play no part but for places: plain mathematics. No condition. -/
import Derived.Test.YtlmohihodhdcfaaDoorTok11
namespace Go.Proofs.YtlmohihodhdcfaaDoor

/-- How many quotes. -/
def cq (l : List UInt8) : Nat := l.countP fun b => decide (b.toNat = 39)
theorem cq_append (l m : List UInt8) : cq (l ++ m) = cq l + cq m := List.countP_append
theorem cq_cons (b : UInt8) (l : List UInt8) : cq (b :: l) = cq l + if b.toNat = 39 then 1 else 0 := by
  unfold cq
  rw [List.countP_cons]
  by_cases h : b.toNat = 39 <;> simp [h]
theorem cq_none {l : List UInt8} (h : ∀ b ∈ l, ¬ b.toNat = 39) : cq l = 0 := by
  unfold cq
  rw [List.countP_eq_zero]
  intro b hb
  simpa using h b hb
theorem cq_qq (t : List UInt8) : cq (qq t) % 2 = 0 := by
  induction t with
  | nil => rfl
  | cons c t ih =>
    rw [qq]
    split
    · rename_i h
      rw [cq_cons, cq_cons, if_pos h]
      omega
    · rename_i h
      rw [cq_cons, if_neg h]
      omega
theorem unq_none : ∀ (n : Nat) (m : List UInt8) (_ : m.length ≤ n), unq m = none → cq m % 2 = 0
  | 0, m, hm, _ => by
    have : m = [] := List.eq_nil_of_length_eq_zero (by omega)
    subst this
    rfl
  | n + 1, [], _, _ => rfl
  | n + 1, [c], _, h => by
    rw [unq] at h
    split at h
    · cases h
    · rename_i hc
      rw [cq_cons, if_neg hc]
      rfl
  | n + 1, c :: d :: l, hm, h => by
    rw [unq] at h
    split at h
    · rename_i hc
      split at h
      · rename_i hd
        have h1 : unq l = none := by
          cases hu : unq l with
          | none => rfl
          | some r => rw [hu] at h; cases h
        have := unq_none n l (by simp at hm; omega) h1
        rw [cq_cons, cq_cons, if_pos hc, if_pos hd]
        omega
      · cases h
    · rename_i hc
      have h1 : unq (d :: l) = none := by
        cases hu : unq (d :: l) with
        | none => rfl
        | some r => rw [hu] at h; cases h
      have := unq_none n (d :: l) (by simp at hm ⊢; omega) h1
      rw [cq_cons, if_neg hc]
      omega
theorem unq_more {m t B : List UInt8} {k : Nat} (h : unq m = some (t, k)) (hB : ∀ b ∈ B, b.toNat = 10) : unq (m ++ B) = some (t, k) := by
  obtain ⟨q1, q2, q3⟩ := unq_some _ _ (Nat.le_refl _) t k h
  have e : m ++ B = qq t ++ 39 :: (m.drop k ++ B) := by
    conv => lhs; rw [q1]
    simp
  rw [e, unq_qq, q2]
  intro d hd
  cases hm : m.drop k with
  | nil =>
    rw [hm, List.nil_append] at hd
    have := hB d (List.mem_of_mem_head? hd)
    omega
  | cons c r =>
    rw [hm] at hd q3
    simp at hd
    subst hd
    exact q3 c (by simp)
/-- All of them line ends. -/
def Nls (B : List UInt8) : Prop := ∀ b ∈ B, b.toNat = 10
theorem Nls.head {B : List UInt8} (h : Nls B) {p : UInt8 → Bool} (hp : ∀ b : UInt8, b.toNat = 10 → p b = false) : ∀ b ∈ B.head?, p b = false := fun b hb => hp b (h b (List.mem_of_mem_head? hb))
theorem ten_named {b : UInt8} (h : b.toNat = 10) : namedB b = false := by unfold namedB letterB digitB; simp [h]
theorem ten_digit {b : UInt8} (h : b.toNat = 10) : digitB b = false := by unfold digitB; simp [h]
theorem ten_letter {b : UInt8} (h : b.toNat = 10) : letterB b = false := by unfold letterB; simp [h]
theorem ten_blank {b : UInt8} (h : b.toNat = 10) : blankB b = true := by unfold blankB; simp [h]
theorem wordT_more {m B : List UInt8} (hB : Nls B) : wordT (m ++ B) = wordT m := by
  have h1 := runP_app namedB m B (Or.inr (hB.head fun b h => ten_named h))
  have h2 := runP_le namedB m
  unfold wordT
  rw [h1, List.take_append_of_le_length h2]
theorem nextL_more {m B : List UInt8} (hB : Nls B) {n : Nat} (hn : n ≤ m.length) : nextL (m ++ B) n = nextL m n := by
  unfold nextL
  rw [List.drop_append_of_le_length hn]
  cases hm : m.drop n with
  | nil =>
    rw [List.nil_append]
    cases B with
    | nil => rfl
    | cons b B => exact ten_letter (hB b (by simp))
  | cons c r => rfl
theorem numT_more {m B : List UInt8} (hB : Nls B) : numT (m ++ B) = numT m := by
  have h1 := runP_app digitB m B (Or.inr (hB.head fun b h => ten_digit h))
  have h2 := runP_le digitB m
  unfold numT
  rw [h1, List.take_append_of_le_length h2, nextL_more hB h2]
theorem textT_more {c : UInt8} {m B : List UInt8} (hB : Nls B) (hc : c.toNat = 39) (hq : cq (c :: m) % 2 = 0) : textT ((c :: m) ++ B) = textT (c :: m) := by
  unfold textT
  rw [List.cons_append, List.drop_succ_cons, List.drop_zero, List.drop_succ_cons, List.drop_zero]
  cases hu : unq m with
  | none =>
    exfalso
    have := unq_none _ m (Nat.le_refl _) hu
    rw [cq_cons, if_pos hc] at hq
    omega
  | some r =>
    obtain ⟨t, k⟩ := r
    rw [unq_more hu hB]
theorem signP_more {c : UInt8} {m B : List UInt8} (hB : Nls B) : signP ((c :: m) ++ B) = signP (c :: m) := by
  cases m with
  | cons d m => rfl
  | nil =>
    cases B with
    | nil => rfl
    | cons b B =>
      have hb := hB b (by simp)
      show (if (c = 60 ∧ b = 62) ∨ (c = 60 ∧ b = 61) ∨ (c = 62 ∧ b = 61) then [c, b] else sign1 c) = sign1 c
      rw [if_neg]
      rintro (⟨_, h⟩ | ⟨_, h⟩ | ⟨_, h⟩) <;> (subst h; cases hb)
theorem hereT_more {c : UInt8} {m B : List UInt8} (hB : Nls B) (hq : cq (c :: m) % 2 = 0) : hereT ((c :: m) ++ B) = hereT (c :: m) := by
  have e : (c :: m) ++ B = c :: (m ++ B) := rfl
  rw [hereT_eq]
  conv => lhs; rw [e, hereT_eq, ← e]
  rw [wordT_more hB, numT_more hB]
  split
  · rfl
  · split
    · rfl
    · split
      · rename_i h
        exact textT_more hB h hq
      · unfold signT
        rw [signP_more hB]
/-- What a token takes: no more than there is; of kinds that are none of the end; quotes two by two. -/
structure Takes (m : List UInt8) (r : Tr) : Prop where
  le : r.n ≤ m.length
  kind : r.e = 0 → ¬ r.k = 0
  even : r.e = 0 → cq (m.take r.n) % 2 = 0
theorem takes_err (m : List UInt8) {e : Int} (he : ¬ e = 0) : Takes m (errT e) := ⟨Nat.zero_le _, fun h => absurd h he, fun h => absurd h he⟩
theorem runP_cq {p : UInt8 → Bool} (hp : ∀ b : UInt8, b.toNat = 39 → p b = false) (m : List UInt8) : cq (m.take (runP p m)) = 0 := cq_none fun b hb h => by
  obtain ⟨j, hj, rfl⟩ := List.getElem_of_mem hb
  rw [List.getElem_take] at h
  rw [List.length_take] at hj
  have := runP_all p m j (by omega) (by omega)
  rw [hp _ h] at this
  cases this
theorem q_named {b : UInt8} (h : b.toNat = 39) : namedB b = false := by unfold namedB letterB digitB; simp [h]
theorem q_digit {b : UInt8} (h : b.toNat = 39) : digitB b = false := by unfold digitB; simp [h]
theorem takes_word (m : List UInt8) : Takes m (wordT m) := by
  unfold wordT
  split
  · exact takes_err m (by decide)
  · refine ⟨runP_le namedB m, fun _ => ?_, fun _ => ?_⟩
    · show ¬ (if _ then (2 : Int) else 1) = 0
      split <;> decide
    · show cq (m.take (runP namedB m)) % 2 = 0
      rw [runP_cq (fun b h => q_named h)]
theorem takes_num (m : List UInt8) : Takes m (numT m) := by
  unfold numT
  split
  · exact takes_err m (by decide)
  · refine ⟨runP_le digitB m, fun _ => (by decide : ¬ (3 : Int) = 0), fun _ => ?_⟩
    show cq (m.take (runP digitB m)) % 2 = 0
    rw [runP_cq (fun b h => q_digit h)]
theorem takes_text {c : UInt8} {m : List UInt8} (hc : c.toNat = 39) : Takes (c :: m) (textT (c :: m)) := by
  unfold textT
  rw [List.drop_succ_cons, List.drop_zero]
  cases hu : unq m with
  | none => exact takes_err _ (by decide)
  | some r =>
    obtain ⟨t, k⟩ := r
    have h1 := unq_len hu
    obtain ⟨q1, q2, q3⟩ := unq_some _ _ (Nat.le_refl _) t k hu
    show Takes _ (if 65536 < t.length then errT 4 else ⟨4, t, 0, k + 1, 0⟩)
    split
    · exact takes_err _ (by decide)
    · refine ⟨by show k + 1 ≤ _; simp; omega, fun _ => (by decide : ¬ (4 : Int) = 0), fun _ => ?_⟩
      show cq ((c :: m).take (k + 1)) % 2 = 0
      have e : m.take k = qq t ++ [39] := by
        rw [q2]
        conv => lhs; rw [q1]
        rw [List.take_append, List.take_of_length_le (by omega), Nat.add_sub_cancel_left]
        rfl
      rw [List.take_succ_cons, e, cq_cons, if_pos hc, cq_append]
      have := cq_qq t
      have e2 : cq [39] = 1 := rfl
      omega
theorem sign1_cq (a : UInt8) : cq (sign1 a) = 0 ∧ (sign1 a = [] ∨ sign1 a = [a]) := by
  unfold sign1
  split
  · rename_i h
    refine ⟨cq_none fun b hb h39 => ?_, Or.inr rfl⟩
    rw [List.mem_singleton] at hb
    subst hb
    have := is39 h39
    subst this
    exact absurd h (by decide)
  · exact ⟨rfl, Or.inl rfl⟩
theorem signP_takes (m : List UInt8) : (signP m).length ≤ m.length ∧ cq (m.take (signP m).length) = 0 := by
  match m with
  | [] => exact ⟨Nat.le_refl _, rfl⟩
  | [a] =>
    obtain ⟨h1, h2⟩ := sign1_cq a
    show (sign1 a).length ≤ 1 ∧ cq ([a].take (sign1 a).length) = 0
    rcases h2 with h2 | h2
    · rw [h2]; exact ⟨Nat.zero_le _, rfl⟩
    · rw [h2] at h1 ⊢; exact ⟨Nat.le_refl _, h1⟩
  | a :: b :: r =>
    show (if (a = 60 ∧ b = 62) ∨ (a = 60 ∧ b = 61) ∨ (a = 62 ∧ b = 61) then [a, b] else sign1 a).length ≤ _ ∧ cq ((a :: b :: r).take (if (a = 60 ∧ b = 62) ∨ (a = 60 ∧ b = 61) ∨ (a = 62 ∧ b = 61) then [a, b] else sign1 a).length) = 0
    split
    · rename_i h
      refine ⟨by simp, ?_⟩
      rcases h with ⟨rfl, rfl⟩ | ⟨rfl, rfl⟩ | ⟨rfl, rfl⟩ <;> rfl
    · obtain ⟨h1, h2⟩ := sign1_cq a
      rcases h2 with h2 | h2
      · rw [h2]; exact ⟨Nat.zero_le _, rfl⟩
      · rw [h2] at h1 ⊢
        exact ⟨by simp, h1⟩
theorem takes_sign (m : List UInt8) : Takes m (signT m) := by
  unfold signT
  split
  · exact takes_err m (by decide)
  · have := signP_takes m
    refine ⟨this.1, fun _ => (by decide : ¬ (5 : Int) = 0), fun _ => ?_⟩
    show cq (m.take (signP m).length) % 2 = 0
    rw [this.2]
theorem takes_here (c : UInt8) (m : List UInt8) : Takes (c :: m) (hereT (c :: m)) := by
  rw [hereT_eq]
  split
  · exact takes_word _
  · split
    · exact takes_num _
    · split
      · rename_i h
        exact takes_text h
      · exact takes_sign _
/-- The same token, further on; or the end. -/
def Shf (a : Nat) (x y : Tk) : Prop := x.k = 0 ∨ (y.k = x.k ∧ y.t = x.t ∧ y.i = x.i ∧ y.a = x.a + a)
structure Alike (a : Nat) (r s : List Tk × Int) : Prop where
  err : s.2 = r.2
  len : s.1.length = r.1.length
  each : ∀ i (h : i < r.1.length) (h' : i < s.1.length), Shf a r.1[i] s.1[i]
theorem Alike.none (a : Nat) (e : Int) : Alike a ([], e) ([], e) := ⟨rfl, rfl, fun _ h => absurd h (Nat.not_lt_zero _)⟩
theorem Alike.one {a : Nat} {x y : Tk} (h : Shf a x y) (e : Int) : Alike a ([x], e) ([y], e) := ⟨rfl, rfl, fun i hi _ => by
  obtain rfl : i = 0 := by simpa using hi
  exact h⟩
theorem Alike.cons {a : Nat} {x y : Tk} {r s : List Tk × Int} (h : Shf a x y) (k : Alike a r s) (e : Int) : Alike a (x :: r.1, e) (y :: s.1, e) := ⟨rfl, by simp [k.len], fun i hi hi' => by
  cases i with
  | zero => exact h
  | succ i => exact k.each i (by simpa using hi) (by simpa using hi')⟩
theorem clamp_in {n p : Nat} (h : p ≤ n) : clampI n (p : Int) = p := by
  unfold clampI
  rw [if_neg (by omega), if_neg (by omega)]
  omega
theorem runP_whole {p : UInt8 → Bool} {l : List UInt8} (h : ∀ b ∈ l, p b = true) : runP p l = l.length :=
  runP_at p l l.length (Nat.le_refl _) (fun _ hj _ => h _ (List.getElem_mem hj)) (Or.inl rfl)
theorem runP_both {p : UInt8 → Bool} (l m : List UInt8) (h : ∀ b ∈ l, p b = true) : runP p (l ++ m) = l.length + runP p m := by
  induction l with
  | nil => simp
  | cons b l ih =>
    rw [List.cons_append, runP, if_pos (h b (by simp)), ih fun c hc => h c (by simp [hc])]
    simp
    omega
theorem q_blank {b : UInt8} (h : b.toNat = 39) : blankB b = false := by unfold blankB; simp [h]
section
variable {l A B : List UInt8} (hA : ∀ b ∈ A, blankB b = true) (hB : Nls B)
include hB
/-- Behind a place of the text, as behind the same place further on. -/
theorem first_more {p : Nat} (hp : p ≤ l.length) : (firstP l p < l.length ∧ firstP (A ++ l ++ B) (A.length + p) = A.length + firstP l p) ∨ (firstP l p = l.length ∧ firstP (A ++ l ++ B) (A.length + p) = (A ++ l ++ B).length) := by
  have hd : (A ++ l ++ B).drop (A.length + p) = l.drop p ++ B := by
    rw [List.append_assoc, List.drop_append, List.drop_of_length_le (by omega), List.nil_append, Nat.add_sub_cancel_left, List.drop_append_of_le_length hp]
  have hl : (l.drop p).length = l.length - p := List.length_drop
  have hr := runP_le blankB (l.drop p)
  unfold firstP
  rw [hd]
  rcases Nat.lt_or_ge (runP blankB (l.drop p)) (l.drop p).length with h | h
  · left
    rw [runP_app blankB _ B (Or.inl h)]
    omega
  · right
    have hall : ∀ b ∈ l.drop p, blankB b = true := fun b hb => by
      obtain ⟨j, hj, rfl⟩ := List.getElem_of_mem hb
      exact runP_all blankB _ j hj (by omega)
    rw [runP_both _ B hall, runP_whole (l := B) fun b hb => ten_blank (hB b hb)]
    simp
    omega
include hA
omit hB in
theorem first_zero : firstP (A ++ l ++ B) 0 = firstP (A ++ l ++ B) (A.length + 0) := by
  unfold firstP
  rw [List.drop_zero, Nat.add_zero, List.append_assoc, runP_both A _ hA, List.drop_left]
  omega
omit hA
theorem all_more : ∀ (n p q : Nat) (_ : p ≤ l.length) (_ : q ≤ (A ++ l ++ B).length) (_ : firstP (A ++ l ++ B) q = firstP (A ++ l ++ B) (A.length + p)) (_ : cq (l.drop p) % 2 = 0), Alike A.length (allG l n p) (allG (A ++ l ++ B) n q)
  | 0, _, _, _, _, _, _ => Alike.none _ _
  | n + 1, p, q, hp, hq, he, hc => by
    have h1 : oneT l (p : Int) = toT p (firstP l p) (hereT (l.drop (firstP l p))) := by
      unfold oneT
      rw [clamp_in hp]
    have h2 : oneT (A ++ l ++ B) (q : Int) = toT q (firstP (A ++ l ++ B) q) (hereT ((A ++ l ++ B).drop (firstP (A ++ l ++ B) q))) := by
      unfold oneT
      rw [clamp_in hq]
    rcases first_more (A := A) hB hp with ⟨hf, hg⟩ | ⟨hf, hg⟩
    · rw [he, hg] at h2
      have hd : (A ++ l ++ B).drop (A.length + firstP l p) = l.drop (firstP l p) ++ B := by
        rw [List.append_assoc, List.drop_append, List.drop_of_length_le (by omega), List.nil_append, Nat.add_sub_cancel_left, List.drop_append_of_le_length (by omega)]
      rw [hd] at h2
      have hpf : l.drop p = (l.drop p).take (firstP l p - p) ++ l.drop (firstP l p) := by
        conv => lhs; rw [← List.take_append_drop (firstP l p - p) (l.drop p)]
        rw [List.drop_drop]
        congr 2
        unfold firstP
        omega
      have hc0 : cq ((l.drop p).take (firstP l p - p)) = 0 := by
        have : firstP l p - p = runP blankB (l.drop p) := by unfold firstP; omega
        rw [this]
        exact runP_cq (fun b h => q_blank h) _
      have hcm : cq (l.drop (firstP l p)) % 2 = 0 := by
        rw [hpf, cq_append, hc0] at hc
        simpa using hc
      obtain ⟨f, hfe⟩ : ∃ f, firstP l p = f := ⟨_, rfl⟩
      rw [hfe] at h1 h2 hf hcm
      obtain ⟨c, m, hm⟩ : ∃ c m, l.drop f = c :: m := by
        cases hx : l.drop f with
        | nil =>
          have := congrArg List.length hx
          rw [List.length_drop] at this
          simp at this
          omega
        | cons c m => exact ⟨c, m, rfl⟩
      rw [hm] at h1 h2 hcm
      rw [hereT_more hB hcm] at h2
      have ht := takes_here c m
      obtain ⟨r, hr⟩ : ∃ r, hereT (c :: m) = r := ⟨_, rfl⟩
      rw [hr] at h1 h2 ht
      by_cases hre : r.e = 0
      · have e1 : oneT l (p : Int) = ⟨r.k, r.t, r.i, f, f + r.n, 0⟩ := by rw [h1]; exact if_pos hre
        have e2 : oneT (A ++ l ++ B) (q : Int) = ⟨r.k, r.t, r.i, A.length + f, A.length + f + r.n, 0⟩ := by rw [h2]; exact if_pos hre
        have hk := ht.kind hre
        have hlen : (c :: m).length = l.length - f := by rw [← hm, List.length_drop]
        have hle := ht.le
        have hnx : cq (l.drop (f + r.n)) % 2 = 0 := by
          have e3 : l.drop (f + r.n) = (c :: m).drop r.n := by rw [← hm, List.drop_drop]
          have e4 := congrArg cq (List.take_append_drop r.n (c :: m))
          rw [cq_append] at e4
          have := ht.even hre
          rw [e3]
          omega
        have ih := all_more n (f + r.n) (A.length + (f + r.n)) (by omega) (by simp; omega) rfl hnx
        have hs : Shf A.length (tkOf (oneT l (p : Int))) (tkOf (oneT (A ++ l ++ B) (q : Int))) := by
          rw [e1, e2]
          exact Or.inr ⟨rfl, rfl, rfl, by show ((A.length + f : Nat) : Int) = (f : Int) + A.length; omega⟩
        have n1 : allG l (n + 1) p = if (allG l n (f + r.n)).2 = 0 then (tkOf (oneT l p) :: (allG l n (f + r.n)).1, 0) else ([], (allG l n (f + r.n)).2) := by
          rw [allG, if_pos (by rw [e1]), if_neg (by rw [e1]; exact hk), e1]
        have n2 : allG (A ++ l ++ B) (n + 1) q = if (allG (A ++ l ++ B) n (A.length + (f + r.n))).2 = 0 then (tkOf (oneT (A ++ l ++ B) q) :: (allG (A ++ l ++ B) n (A.length + (f + r.n))).1, 0) else ([], (allG (A ++ l ++ B) n (A.length + (f + r.n))).2) := by
          rw [allG, if_pos (by rw [e2]), if_neg (by rw [e2]; exact hk), e2, Nat.add_assoc]
        rw [n1, n2, ih.err]
        split
        · exact Alike.cons hs ih 0
        · exact Alike.none _ _
      · have e1 : oneT l (p : Int) = ⟨0, [], 0, 0, p, r.e⟩ := by rw [h1]; exact if_neg hre
        have e2 : oneT (A ++ l ++ B) (q : Int) = ⟨0, [], 0, 0, q, r.e⟩ := by rw [h2]; exact if_neg hre
        rw [allG_err (by rw [e1]; exact hre), allG_err (by rw [e2]; exact hre), e1, e2]
        exact Alike.none _ _
    · rw [hf, List.drop_of_length_le (Nat.le_refl _)] at h1
      rw [he, hg, List.drop_of_length_le (Nat.le_refl _)] at h2
      rw [allG_end (by rw [h1]; rfl) (by rw [h1]; rfl), allG_end (by rw [h2]; rfl) (by rw [h2]; rfl)]
      exact Alike.one (Or.inl (by rw [h1]; rfl)) 0
include hA
theorem allP_more (hc : cq l % 2 = 0) : Alike A.length (allP l) (allP (A ++ l ++ B)) :=
  all_more hB 1000 0 0 (Nat.zero_le _) (Nat.zero_le _) (first_zero hA) (by rw [List.drop_zero]; exact hc)
end
end Go.Proofs.YtlmohihodhdcfaaDoor
