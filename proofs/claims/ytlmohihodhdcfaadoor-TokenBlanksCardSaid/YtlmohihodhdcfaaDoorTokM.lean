/- Layer 7: tokens as plain mathematics of bytes: runs, texts between two quotes, numbers, signs. No condition. -/
import Derived.Test.YtlmohihodhdcfaaDoorName
import Derived.Lib.ReplaceLaws
import Derived.Lib.IndexLaws
import Derived.Lib.IndexBytes
import Derived.Lib.CountLaws
namespace Go.Proofs.YtlmohihodhdcfaaDoor

def bl (s : ByteArray) : List UInt8 := s.data.toList
theorem bl_len (s : ByteArray) : (bl s).length = s.size := (Lib.size_eq s).symm
theorem bl_get {s : ByteArray} {i : Nat} (h : i < s.size) (h' : i < (bl s).length) : (bl s)[i] = s[i] := by
  have e : (bl s)[i]? = some s[i] := Lib.data_getElem? s i h
  rw [List.getElem?_eq_getElem h'] at e
  exact Option.some.inj e
theorem bl_mk (l : List UInt8) : bl ⟨l.toArray⟩ = l := by simp [bl]
theorem mk_bl (s : ByteArray) : (⟨(bl s).toArray⟩ : ByteArray) = s := by simp [bl]
theorem bl_ext {s t : ByteArray} (h : bl s = bl t) : s = t := by rw [← mk_bl s, ← mk_bl t, h]
theorem bl_extract (s : ByteArray) (a b : Nat) : bl (s.extract a b) = ((bl s).drop a).take (b - a) := by
  conv => lhs; rw [← mk_bl s, ByteArray.extract_mk]
  exact bl_mk _
theorem bl_append (s t : ByteArray) : bl (s ++ t) = bl s ++ bl t := by simp [bl, ByteArray.data_append]
theorem mk_size (l : List UInt8) : (⟨l.toArray⟩ : ByteArray).size = l.length := by rw [← bl_len, bl_mk]
def blankB (b : UInt8) : Bool := decide (b.toNat = 32) || (decide (b.toNat = 9) || (decide (b.toNat = 10) || decide (b.toNat = 13)))
def namedB (b : UInt8) : Bool := letterB b || digitB b

/-- How many bytes at the beginning are such. -/
def runP (p : UInt8 → Bool) : List UInt8 → Nat
  | [] => 0
  | b :: l => if p b then runP p l + 1 else 0
theorem runP_le (p : UInt8 → Bool) (l : List UInt8) : runP p l ≤ l.length := by
  induction l with
  | nil => exact Nat.le_refl _
  | cons b l ih =>
    rw [runP]
    split
    · simpa using ih
    · simp
theorem runP_all (p : UInt8 → Bool) : ∀ (l : List UInt8) (j : Nat) (h : j < l.length), j < runP p l → p l[j] = true
  | [], j, h, _ => by simp at h
  | b :: l, j, h, hj => by
    rw [runP] at hj
    split at hj
    · rename_i hb
      cases j with
      | zero => exact hb
      | succ j => exact runP_all p l j (by simpa using h) (by omega)
    · omega
theorem runP_stop (p : UInt8 → Bool) : ∀ (l : List UInt8) (h : runP p l < l.length), p (l[runP p l]) = false
  | [], h => by simp at h
  | b :: l, h => by
    by_cases hb : p b = true
    · have e : runP p (b :: l) = runP p l + 1 := by rw [runP, if_pos hb]
      have h' : runP p l < l.length := by rw [e] at h; simpa using h
      have := runP_stop p l h'
      simp only [e, List.getElem_cons_succ]
      exact this
    · have e : runP p (b :: l) = 0 := by rw [runP, if_neg hb]
      simp only [e, List.getElem_cons_zero]
      simpa using hb
theorem runP_at (p : UInt8 → Bool) : ∀ (l : List UInt8) (k : Nat) (_ : k ≤ l.length) (_ : ∀ j (h : j < l.length), j < k → p l[j] = true) (_ : k = l.length ∨ ∃ h : k < l.length, p l[k] = false), runP p l = k
  | [], k, hk, _, _ => by simp at hk; subst hk; rfl
  | b :: l, 0, _, _, h2 => by
    rcases h2 with h | ⟨h, hb⟩
    · simp at h
    · rw [runP, if_neg (by simpa using hb)]
  | b :: l, k + 1, hk, h1, h2 => by
    have hb : p b = true := h1 0 (by simp) (by omega)
    rw [runP, if_pos hb, runP_at p l k (by simpa using hk) (fun j h hj => by have := h1 (j + 1) (by simpa using h) (by omega); simpa using this) (by
      rcases h2 with h | ⟨h, h'⟩
      · exact Or.inl (by simpa using h)
      · exact Or.inr ⟨by simpa using h, by simpa using h'⟩)]
/-- More behind: the same run, if the first one of what is more is not such or the run ends ahead. -/
theorem runP_app (p : UInt8 → Bool) (l m : List UInt8) (h : runP p l < l.length ∨ ∀ b ∈ m.head?, p b = false) : runP p (l ++ m) = runP p l := by
  induction l with
  | nil =>
    rcases h with h | h
    · simp at h
    · cases m with
      | nil => rfl
      | cons b m => simp only [List.nil_append, runP]; rw [if_neg]; simpa using h b (by simp)
  | cons b l ih =>
    rw [List.cons_append, runP, runP]
    split
    · rename_i hb
      rw [ih]
      rcases h with h | h
      · left
        rw [runP, if_pos hb] at h
        simpa using h
      · exact Or.inr h
    · rfl

/-- A text between two quotes, from behind the first one on: what it has, and how many bytes with the last quote; none, if it has no end. -/
def unq : List UInt8 → Option (List UInt8 × Nat)
  | [] => none
  | [c] => if c.toNat = 39 then some ([], 1) else none
  | c :: d :: l => if c.toNat = 39 then (if d.toNat = 39 then (unq l).map fun r => (c :: r.1, r.2 + 2) else some ([], 1)) else (unq (d :: l)).map fun r => (c :: r.1, r.2 + 1)
def sh (t : List UInt8) (k : Nat) (r : Option (List UInt8 × Nat)) : Option (List UInt8 × Nat) := r.map fun r => (t ++ r.1, k + r.2)
theorem unq_other {c : UInt8} (h : ¬ c.toNat = 39) (l : List UInt8) : unq (c :: l) = sh [c] 1 (unq l) := by
  cases l with
  | nil => simp [unq, h, sh]
  | cons d l =>
    rw [unq, if_neg h, sh]
    congr 1
    funext r
    simp [Nat.add_comm]
theorem unq_two {c d : UInt8} (h : c.toNat = 39) (h2 : d.toNat = 39) (l : List UInt8) : unq (c :: d :: l) = sh [c] 2 (unq l) := by
  rw [unq, if_pos h, if_pos h2, sh]
  congr 1
  funext r
  simp [Nat.add_comm]
theorem unq_end {c : UInt8} (h : c.toNat = 39) {l : List UInt8} (h2 : ∀ d ∈ l.head?, ¬ d.toNat = 39) : unq (c :: l) = some ([], 1) := by
  cases l with
  | nil => simp [unq, h]
  | cons d l => rw [unq, if_pos h, if_neg (h2 d (by simp))]
theorem sh_sh (t u : List UInt8) (k j : Nat) (r : Option (List UInt8 × Nat)) : sh t k (sh u j r) = sh (t ++ u) (k + j) r := by
  cases r <;> simp [sh, Nat.add_assoc]
theorem sh_nil (r : Option (List UInt8 × Nat)) : sh [] 0 r = r := by cases r <;> simp [sh]
section
variable {m t : List UInt8} {k : Nat} (h : unq m = sh t k (unq (m.drop k)))
include h
theorem unq_s1 (hk : k < m.length) (hc : ¬ m[k].toNat = 39) : unq m = sh (t ++ [m[k]]) (k + 1) (unq (m.drop (k + 1))) := by
  rw [h, List.drop_eq_getElem_cons hk, unq_other hc, sh_sh]
theorem unq_s2 (hk : k + 1 < m.length) (hc : m[k].toNat = 39) (hd : m[k + 1].toNat = 39) : unq m = sh (t ++ [m[k]]) (k + 2) (unq (m.drop (k + 2))) := by
  rw [h, List.drop_eq_getElem_cons (by omega : k < m.length), List.drop_eq_getElem_cons hk, unq_two hc hd, sh_sh]
theorem unq_s3 (hk : k < m.length) (hc : m[k].toNat = 39) (hd : k + 1 = m.length ∨ ∃ h : k + 1 < m.length, ¬ m[k + 1].toNat = 39) : unq m = some (t, k + 1) := by
  rw [h, List.drop_eq_getElem_cons hk, unq_end hc]
  · simp [sh]
  · intro d hd2
    rcases hd with e | ⟨hl, hn⟩
    · rw [List.drop_of_length_le (by omega)] at hd2
      simp at hd2
    · rw [List.drop_eq_getElem_cons hl, List.head?_cons] at hd2
      have e : m[k + 1] = d := Option.some.inj hd2
      rw [← e]
      exact hn
theorem unq_s0 (hk : m.length ≤ k) : unq m = none := by
  rw [h, List.drop_of_length_le hk]
  rfl
theorem unq_sn : ∀ (n : Nat) (_ : k + n ≤ m.length) (_ : ∀ j (hj : j < m.length), k ≤ j → j < k + n → ¬ m[j].toNat = 39), ∃ t', unq m = sh t' (k + n) (unq (m.drop (k + n)))
  | 0, _, _ => ⟨t, h⟩
  | n + 1, hk, hn => by
    obtain ⟨t', ht⟩ := unq_sn n (by omega) fun j hj h1 h2 => hn j hj h1 (by omega)
    exact ⟨_, unq_s1 ht (by omega) (hn _ _ (by omega) (by omega))⟩
end
theorem unq_start (m : List UInt8) : unq m = sh [] 0 (unq (m.drop 0)) := by rw [sh_nil, List.drop_zero]

/-- A text with each quote twice. -/
def qq : List UInt8 → List UInt8
  | [] => []
  | c :: l => if c.toNat = 39 then c :: c :: qq l else c :: qq l
theorem is39 {c : UInt8} (h : c.toNat = 39) : c = 39 := UInt8.toNat_inj.1 (by rw [h]; rfl)
theorem unq_qq (t r : List UInt8) (hr : ∀ d ∈ r.head?, ¬ d.toNat = 39) : unq (qq t ++ 39 :: r) = some (t, (qq t).length + 1) := by
  induction t with
  | nil => exact unq_end (by rfl) hr
  | cons c t ih =>
    rw [qq]
    split
    · rename_i hc
      rw [List.cons_append, List.cons_append, unq_two hc hc, ih]
      simp [sh]
      omega
    · rename_i hc
      rw [List.cons_append, unq_other hc, ih]
      simp [sh]
      omega
theorem unq_some : ∀ (n : Nat) (m : List UInt8) (_ : m.length ≤ n) (t : List UInt8) (k : Nat), unq m = some (t, k) → m = qq t ++ 39 :: m.drop k ∧ k = (qq t).length + 1 ∧ ∀ d ∈ (m.drop k).head?, ¬ d.toNat = 39
  | 0, m, hm, t, k, h => by
    have : m = [] := List.eq_nil_of_length_eq_zero (by omega)
    subst this
    cases h
  | n + 1, [], _, t, k, h => by cases h
  | n + 1, [c], _, t, k, h => by
    rw [unq] at h
    split at h
    · rename_i hc
      injection h with h
      injection h with h1 h2
      subst h1 h2
      have := is39 hc
      subst this
      exact ⟨rfl, rfl, by simp⟩
    · cases h
  | n + 1, c :: d :: l, hm, t, k, h => by
    rw [unq] at h
    split at h
    · rename_i hc
      have := is39 hc
      subst this
      split at h
      · rename_i hd
        have := is39 hd
        subst this
        obtain ⟨r, hr, he⟩ := Option.map_eq_some_iff.1 h
        injection he with h1 h2
        subst h1 h2
        obtain ⟨t, k⟩ := r
        obtain ⟨q1, q2, q3⟩ := unq_some n l (by simp at hm; omega) t k hr
        simp only at *
        refine ⟨?_, ?_, ?_⟩
        · rw [qq, if_pos (by rfl)]
          simp only [List.cons_append, List.drop_succ_cons]
          rw [← q1]
        · rw [qq, if_pos (by rfl)]
          simp
          omega
        · simpa using q3
      · rename_i hd
        injection h with h
        injection h with h1 h2
        subst h1 h2
        exact ⟨rfl, rfl, by simpa using hd⟩
    · rename_i hc
      obtain ⟨r, hr, he⟩ := Option.map_eq_some_iff.1 h
      injection he with h1 h2
      subst h1 h2
      obtain ⟨t, k⟩ := r
      obtain ⟨q1, q2, q3⟩ := unq_some n (d :: l) (by simp at hm ⊢; omega) t k hr
      simp only at *
      refine ⟨?_, ?_, ?_⟩
      · rw [qq, if_neg hc]
        simp only [List.cons_append, List.drop_succ_cons]
        rw [← q1]
      · rw [qq, if_neg hc]
        simp
        omega
      · simpa using q3
theorem qq_len (t : List UInt8) : t.length ≤ (qq t).length ∧ (qq t).length ≤ 2 * t.length := by
  induction t with
  | nil => exact ⟨Nat.le_refl _, Nat.le_refl _⟩
  | cons c t ih =>
    rw [qq]
    split <;> (simp; omega)

/-! strings.ReplaceAll, as it is asked here. -/
theorem index_ne {h c : UInt8} (tl l : List UInt8) (hc : ¬ c = h) : Lib.index (c :: l) (h :: tl) = if Lib.index l (h :: tl) == -1 then -1 else Lib.index l (h :: tl) + 1 := by
  have hp : (h :: tl).isPrefixOf (c :: l) = false := by
    have : (h == c) = false := beq_eq_false_iff_ne.2 fun e => hc e.symm
    simp [List.isPrefixOf, this]
  rw [Lib.index, hp]
  rfl
theorem count_ne {h c : UInt8} (tl l : List UInt8) (hc : ¬ c = h) : Lib.count (c :: l) (h :: tl) = Lib.count l (h :: tl) := by
  have hi := index_ne tl l hc
  by_cases hm : Lib.index l (h :: tl) = -1
  · rw [Lib.count_miss hm]
    rw [hm] at hi
    exact Lib.count_miss hi
  · have hge := Lib.index_ge l (h :: tl)
    obtain ⟨i, hi2⟩ : ∃ i : Nat, Lib.index l (h :: tl) = i := ⟨(Lib.index l (h :: tl)).toNat, by omega⟩
    rw [hi2] at hi
    rw [if_neg (by rw [beq_iff_eq]; omega)] at hi
    have hi' : Lib.index (c :: l) (h :: tl) = ((i + 1 : Nat) : Int) := by rw [hi]; omega
    rw [Lib.count_hit (by simp) hi2, Lib.count_hit (by simp) hi']
    have : i + 1 + (h :: tl).length = (i + (h :: tl).length) + 1 := by omega
    rw [this, List.drop_succ_cons]
theorem repK_ne {h c : UInt8} (tl new l : List UInt8) (hc : ¬ c = h) (k : Nat) : Lib.replaceK (h :: tl) new k (c :: l) = c :: Lib.replaceK (h :: tl) new k l := by
  cases k with
  | zero => rfl
  | succ k =>
    have hi := index_ne tl l hc
    by_cases hm : Lib.index l (h :: tl) = -1
    · rw [hm] at hi
      have hi2 : Lib.index (c :: l) (h :: tl) = -1 := hi
      have e1 : Lib.replaceK (h :: tl) new (k + 1) (c :: l) = c :: l := by rw [Lib.replaceK, hi2]; rfl
      have e2 : Lib.replaceK (h :: tl) new (k + 1) l = l := by rw [Lib.replaceK, hm]; rfl
      rw [e1, e2]
    · have hge := Lib.index_ge l (h :: tl)
      obtain ⟨i, hi2⟩ : ∃ i : Nat, Lib.index l (h :: tl) = i := ⟨(Lib.index l (h :: tl)).toNat, by omega⟩
      rw [hi2] at hi
      rw [if_neg (by rw [beq_iff_eq]; omega)] at hi
      have hi' : Lib.index (c :: l) (h :: tl) = ((i + 1 : Nat) : Int) := by rw [hi]; omega
      rw [Lib.replaceK_hit _ _ _ _ _ hi', Lib.replaceK_hit _ _ _ _ _ hi2]
      have : i + 1 + (h :: tl).length = (i + (h :: tl).length) + 1 := by omega
      rw [this, List.drop_succ_cons, List.take_succ_cons]
      rfl
theorem index_pre (sub l : List UInt8) : Lib.index (sub ++ l) sub = ((0 : Nat) : Int) := by
  refine Lib.index_first (Nat.zero_le _) ?_ (fun j hj => absurd hj (Nat.not_lt_zero _))
  simp [Lib.occAt]
theorem count_pre (sub l : List UInt8) (hs : sub ≠ []) : Lib.count (sub ++ l) sub = 1 + Lib.count l sub := by
  rw [Lib.count_hit hs (index_pre sub l), Nat.zero_add, List.drop_left]
theorem repK_pre (sub new l : List UInt8) (k : Nat) : Lib.replaceK sub new (1 + k) (sub ++ l) = new ++ Lib.replaceK sub new k l := by
  rw [Nat.add_comm, Lib.replaceK_hit _ _ _ _ _ (index_pre sub l), Nat.zero_add, List.drop_left, List.take_zero, List.nil_append]
theorem repK_quote (t : List UInt8) : Lib.replaceK [39] [39, 39] (Lib.count t [39]) t = qq t := by
  induction t with
  | nil => rfl
  | cons c t ih =>
    rw [qq]
    split
    · rename_i hc
      have := is39 hc
      subst this
      have h1 := count_pre [39] t (by simp)
      have h2 := repK_pre [39] [39, 39] t (Lib.count t [39])
      simp only [List.cons_append, List.nil_append] at h1 h2
      rw [h1, h2, ih]
    · rename_i hc
      have hn : ¬ c = 39 := fun e => hc (by rw [e]; rfl)
      rw [count_ne [] t hn, repK_ne [] _ t hn, ih]
theorem repK_unquote (t : List UInt8) : Lib.replaceK [39, 39] [39] (Lib.count (qq t) [39, 39]) (qq t) = t := by
  induction t with
  | nil => rfl
  | cons c t ih =>
    rw [qq]
    split
    · rename_i hc
      have := is39 hc
      subst this
      have h1 := count_pre [39, 39] (qq t) (by simp)
      have h2 := repK_pre [39, 39] [39] (qq t) (Lib.count (qq t) [39, 39])
      simp only [List.cons_append, List.nil_append] at h1 h2
      rw [h1, h2, ih]
    · rename_i hc
      have hn : ¬ c = 39 := fun e => hc (by rw [e]; rfl)
      rw [count_ne [39] _ hn, repK_ne [39] _ _ hn, ih]
theorem rep_quote (t : List UInt8) : Lib.replaceAll t [39] [39, 39] = qq t := by
  unfold Lib.replaceAll Lib.replace
  rw [if_neg (by decide)]
  have : Lib.replaceNum t [39] (-1) = Lib.count t [39] := if_pos (Or.inl (by decide))
  rw [this]
  exact repK_quote t
theorem rep_unquote (t : List UInt8) : Lib.replaceAll (qq t) [39, 39] [39] = t := by
  unfold Lib.replaceAll Lib.replace
  rw [if_neg (by decide)]
  have : Lib.replaceNum (qq t) [39, 39] (-1) = Lib.count (qq t) [39, 39] := if_pos (Or.inl (by decide))
  rw [this]
  exact repK_unquote t

/-! Numbers. -/
def numV (l : List UInt8) : Nat := l.foldl (fun n b => 10 * n + (b.toNat - 48)) 0
theorem numV_take {l : List UInt8} {j : Nat} (h : j < l.length) : numV (l.take (j + 1)) = 10 * numV (l.take j) + (l[j].toNat - 48) := by
  unfold numV
  rw [List.take_succ_eq_append_getElem h, List.foldl_append]
  rfl
theorem numV_grow (l : List UInt8) : ∀ (n : Nat), n ≤ l.foldl (fun n b => 10 * n + (b.toNat - 48)) n := by
  induction l with
  | nil => intro n; exact Nat.le_refl _
  | cons b l ih =>
    intro n
    rw [List.foldl_cons]
    exact Nat.le_trans (by omega) (ih _)
theorem numV_le (l : List UInt8) (j : Nat) : numV (l.take j) ≤ numV l := by
  conv => rhs; rw [← List.take_append_drop j l]
  unfold numV
  rw [List.foldl_append]
  exact numV_grow _ _
def bigN : Nat := 9223372036854775807

/-! Signs. -/
def sign1 (a : UInt8) : List UInt8 := if [40, 41, 44, 46, 42, 43, 45, 61, 60, 62].contains a then [a] else []
def signP : List UInt8 → List UInt8
  | [] => []
  | [a] => sign1 a
  | a :: b :: _ => if (a = 60 ∧ b = 62) ∨ (a = 60 ∧ b = 61) ∨ (a = 62 ∧ b = 61) then [a, b] else sign1 a

/-! The token at the beginning of a text: its kind, text, number; how many bytes; the error. -/
structure Tr where
  k : Int
  t : List UInt8
  i : Int
  n : Nat
  e : Int
def errT (e : Int) : Tr := ⟨0, [], 0, 0, e⟩
def wordT (l : List UInt8) : Tr := if 32 < runP namedB l then errT 1 else ⟨if wordB ⟨(l.take (runP namedB l)).toArray⟩ then 2 else 1, l.take (runP namedB l), 0, runP namedB l, 0⟩
def nextL (l : List UInt8) (n : Nat) : Bool := match l.drop n with
  | [] => false
  | c :: _ => letterB c
def numT (l : List UInt8) : Tr := if nextL l (runP digitB l) = true ∨ bigN < numV (l.take (runP digitB l)) then errT 1 else ⟨3, l.take (runP digitB l), numV (l.take (runP digitB l)), runP digitB l, 0⟩
def textT (l : List UInt8) : Tr := match unq (l.drop 1) with
  | none => errT 1
  | some (t, n) => if 65536 < t.length then errT 4 else ⟨4, t, 0, n + 1, 0⟩
def signT (l : List UInt8) : Tr := if signP l = [] then errT 1 else ⟨5, signP l, 0, (signP l).length, 0⟩
def hereT : List UInt8 → Tr
  | [] => ⟨0, [], 0, 0, 0⟩
  | c :: l => if letterB c then wordT (c :: l) else if digitB c then numT (c :: l) else if c.toNat = 39 then textT (c :: l) else signT (c :: l)
/-! From a place on. -/
def clampI (n : Nat) (a : Int) : Nat := if a < 0 then 0 else if (n : Int) < a then n else a.toNat
theorem clampI_le (n : Nat) (a : Int) : clampI n a ≤ n := by
  unfold clampI
  split
  · omega
  · split <;> omega
def firstP (l : List UInt8) (a : Nat) : Nat := a + runP blankB (l.drop a)
theorem firstP_le {l : List UInt8} {a : Nat} (h : a ≤ l.length) : firstP l a ≤ l.length := by
  have := runP_le blankB (l.drop a)
  rw [List.length_drop] at this
  unfold firstP
  omega
structure To where
  k : Int
  t : List UInt8
  i : Int
  at' : Nat
  next : Nat
  e : Int
def toT (a f : Nat) (r : Tr) : To := if r.e = 0 then ⟨r.k, r.t, r.i, f, f + r.n, 0⟩ else ⟨0, [], 0, 0, a, r.e⟩
def oneT (l : List UInt8) (a : Int) : To := toT (clampI l.length a) (firstP l (clampI l.length a)) (hereT (l.drop (firstP l (clampI l.length a))))
end Go.Proofs.YtlmohihodhdcfaaDoor
