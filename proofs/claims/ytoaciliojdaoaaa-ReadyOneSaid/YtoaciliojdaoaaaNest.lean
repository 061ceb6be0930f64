/- Slices of numbers in a slice, each in a block of its own. No condition. -/
import Derived.Test.YtoaciliojdaoaaaUf4
import Derived.Test.YtoaciliojdaoaaaApp2
import Derived.Maps.AppendAt
namespace Go.Proofs.Ytoaciliojdaoaaa
open Go.RowKit

def nL (l : List Nat) : List Value := l.map fun (a : Nat) => Value.int .i64 (a : Int)
theorem nL_len (l : List Nat) : (nL l).length = l.length := by simp [nL]
theorem nL_snoc (l : List Nat) (x : Nat) : nL l ++ [.int .i64 x] = nL (l ++ [x]) := by simp [nL]
theorem nL_one (l : List Nat) : ∀ u ∈ nL l, u.oneCell' = true := by
  intro u hu
  simp only [nL, List.mem_map] at hu
  obtain ⟨_, _, rfl⟩ := hu
  rfl
theorem nL_at {l : List Nat} {i : Nat} (h : i < l.length) : (nL l)[i]? = some (.int .i64 l[i]) := by simp [nL, h]
theorem own_aside2 {w : World} {base : Nat} {e : TypeId} {size : Nat} {v : Value} {n : Nat} {xs : List Value} {p : Addr} (h : w.ownsRow base e size v n xs) (hg : ∀ q, v.ownBlock = some q → q ≠ p.block) (u : Value) : (w.setCell p u).ownsRow base e size v n xs := by
  obtain ⟨hl, h⟩ := h
  refine ⟨hl, ?_⟩
  rcases h with h | ⟨q, cap, cur, rfl, hb, hh, hq⟩
  · exact Or.inl h
  · exact Or.inr ⟨q, cap, cur, rfl, hb, Blok.far (t := e) (cs := cur) hh (hg q rfl) u, hq⟩
/-- Slices of a slice of one's own: each a row of one's own, no two in one block. -/
structure Nest (w : World) (bo bi : Nat) (A : Option Addr) (cap : Nat) (vs : List Value) (ll : List (List Nat)) : Prop where
  len : vs.length = ll.length
  outer : w.ownsRow bo 30 1 (.slice A ll.length cap) ll.length vs
  inner : ∀ (j : Nat) (v : Value) (l : List Nat), vs[j]? = some v → ll[j]? = some l → (∃ B c, v = .slice B l.length c) ∧ w.ownsRow bi 3 1 v l.length (nL l)
  apart : ∀ (j k : Nat) (v v' : Value), j ≠ k → vs[j]? = some v → vs[k]? = some v' → ∀ b, v.ownBlock = some b → v'.ownBlock ≠ some b
theorem Nest.nil (w : World) (bo bi cap g : Nat) (h : w.ownsRow bo 30 1 (.slice (some ⟨g, 0, none⟩) 0 cap) 0 []) : Nest w bo bi (some ⟨g, 0, none⟩) cap [] [] :=
  ⟨rfl, h, fun j v l hv => by simp at hv, fun j k v v' _ hv => by simp at hv⟩
theorem Nest.none (w : World) (bo bi : Nat) : Nest w bo bi .none 0 [] [] :=
  ⟨rfl, own_none _ _ _ _, fun j v l hv => by simp at hv, fun j k v v' _ hv => by simp at hv⟩
theorem Nest.grew {w w' : World} {bo bi cap : Nat} {A : Option Addr} {vs : List Value} {ll : List (List Nat)} (h : Nest w bo bi A cap vs ll) (g : Grew w w') : Nest w' bo bi A cap vs ll := by
  obtain ⟨x, rfl⟩ := g
  exact ⟨h.len, own_more h.outer x, fun j v l h1 h2 => ⟨(h.inner j v l h1 h2).1, own_more (h.inner j v l h1 h2).2 x⟩, h.apart⟩
theorem own_keep {w w' : World} {base : Nat} {e : TypeId} {size : Nat} {v : Value} {n : Nat} {xs : List Value} {g h : Nat} (ho : w.ownsRow base e size v n xs) (k : Keep2 w w' g h) (hg : g < base) (hh : h < base) : w'.ownsRow base e size v n xs := by
  have hlt := own_lt ho
  have hbs := own_base ho
  obtain ⟨hl, ho⟩ := ho
  refine ⟨hl, ?_⟩
  rcases ho with ho | ⟨q, cap, cur, rfl, hb, hq, hrest⟩
  · exact Or.inl ho
  · have h1 := hlt q rfl
    have h2 := hbs q rfl
    exact Or.inr ⟨q, cap, cur, rfl, hb, by rw [k.block q h1 (by omega) (by omega)]; exact hq, hrest⟩
theorem Nest.keep {w w' : World} {bo bi cap : Nat} {A : Option Addr} {vs : List Value} {ll : List (List Nat)} {g h : Nat} (n : Nest w bo bi A cap vs ll) (k : Keep2 w w' g h) (h1 : g < bo ∧ h < bo) (h2 : g < bi ∧ h < bi) : Nest w' bo bi A cap vs ll :=
  ⟨n.len, own_keep n.outer k h1.1 h1.2, fun j v l hv hl => ⟨(n.inner j v l hv hl).1, own_keep (n.inner j v l hv hl).2 k h2.1 h2.2⟩, n.apart⟩
/-- A cell that lies in another block is written. -/
theorem Nest.far {w : World} {bo bi cap : Nat} {A : Option Addr} {vs : List Value} {ll : List (List Nat)} (n : Nest w bo bi A cap vs ll) {p : Addr} (h1 : p.block < bi) (h2 : ∀ b, (Value.slice A ll.length cap).ownBlock = some b → b ≠ p.block) (u : Value) : Nest (w.setCell p u) bo bi A cap vs ll :=
  ⟨n.len, own_aside2 n.outer h2 u, fun j v l hv hl => ⟨(n.inner j v l hv hl).1, ownsRow_setCell_below (n.inner j v l hv hl).2 h1 u⟩, n.apart⟩
theorem type_apart {w : World} {base base' size size' n n' : Nat} {e e' : TypeId} {v v' : Value} {xs xs' : List Value} (h : w.ownsRow base e size v n xs) (h' : w.ownsRow base' e' size' v' n' xs') (he : e ≠ e') : ∀ k, v.ownBlock = some k → v'.ownBlock ≠ some k := by
  intro k hk hk'
  obtain ⟨_, h⟩ := h
  obtain ⟨_, h'⟩ := h'
  rcases h with ⟨rfl, _⟩ | ⟨q, cap, cur, rfl, _, hq, _⟩
  · cases hk
  · rcases h' with ⟨rfl, _⟩ | ⟨q', cap', cur', rfl, _, hq', _⟩
    · cases hk'
    · injection hk with hk
      injection hk' with hk'
      subst hk
      have hk' : q' = q := hk'
      subst hk'
      rw [hq] at hq'
      injection hq' with hq'
      injection hq' with _ e1 _
      exact he e1
/-- A slice is put behind. -/
theorem Nest.snoc {w w' : World} {bo bi cap cap' : Nat} {A A' : Option Addr} {vs : List Value} {ll : List (List Nat)} {v : Value} {l : List Nat} (n : Nest w bo bi A cap vs ll)
    (ho : w'.ownsRow bo 30 1 (.slice A' (ll.length + 1) cap') (ll.length + 1) (vs ++ [v])) (hg : w.grownBy w' (Value.slice A ll.length cap).ownBlock)
    (hv : ∃ B c, v = .slice B l.length c) (hr : w.ownsRow bi 3 1 v l.length (nL l)) (ha : ∀ (j : Nat) v', vs[j]? = some v' → ∀ b, v'.ownBlock = some b → v.ownBlock ≠ some b) : Nest w' bo bi A' cap' (vs ++ [v]) (ll ++ [l]) := by
  have hk : ∀ {x : Value} {m : Nat} {xs : List Value}, w.ownsRow bi 3 1 x m xs → w'.ownsRow bi 3 1 x m xs := fun h => own_grown h hg fun k hk e => type_apart h n.outer (by decide) k hk e.symm
  refine ⟨by simp [n.len], by simpa using ho, fun j x m hx hm => ?_, fun j k x x' hjk hx hx' => ?_⟩
  · rcases Nat.lt_or_ge j vs.length with hj | hj
    · rw [List.getElem?_append_left hj] at hx
      rw [List.getElem?_append_left (by rw [← n.len]; exact hj)] at hm
      exact ⟨(n.inner j x m hx hm).1, hk (n.inner j x m hx hm).2⟩
    · have hj0 : j = vs.length := by
        rcases Nat.lt_or_ge vs.length j with h | h
        · rw [List.getElem?_eq_none (by simp; omega)] at hx; cases hx
        · omega
      subst hj0
      rw [List.getElem?_concat_length] at hx
      rw [n.len, List.getElem?_concat_length] at hm
      injection hx with hx
      injection hm with hm
      subst hx hm
      exact ⟨hv, hk hr⟩
  · rcases Nat.lt_or_ge j vs.length with hj | hj
    · rw [List.getElem?_append_left hj] at hx
      rcases Nat.lt_or_ge k vs.length with h | h
      · rw [List.getElem?_append_left h] at hx'
        exact n.apart j k x x' hjk hx hx'
      · have hk0 : k = vs.length := by
          rcases Nat.lt_or_ge vs.length k with h | h
          · rw [List.getElem?_eq_none (by simp; omega)] at hx'; cases hx'
          · omega
        subst hk0
        rw [List.getElem?_concat_length] at hx'
        injection hx' with hx'
        subst hx'
        exact ha j x hx
    · have hj0 : j = vs.length := by
        rcases Nat.lt_or_ge vs.length j with h | h
        · rw [List.getElem?_eq_none (by simp; omega)] at hx; cases hx
        · omega
      subst hj0
      rw [List.getElem?_concat_length] at hx
      injection hx with hx
      subst hx
      have hkl : k < vs.length := by
        rcases Nat.lt_or_ge k vs.length with h | h
        · exact h
        · rw [List.getElem?_eq_none (by simp; omega)] at hx'; cases hx'
      rw [List.getElem?_append_left hkl] at hx'
      exact fun b hb hb' => ha k x' hx' b hb' hb
/-- One of the slices is put longer: in its own block or in a new one; and the slice's header is stored. -/
theorem Nest.put {w w1 : World} {bo bi cap j g : Nat} {vs : List Value} {ll : List (List Nat)} {v v' : Value} {l : List Nat} {x : Nat} (n : Nest w bo bi (some ⟨g, 0, .none⟩) cap vs ll) (hj : vs[j]? = some v) (hl : ll[j]? = some l)
    (ho : w1.ownsRow bi 3 1 v' (l.length + 1) (nL l ++ [.int .i64 x])) (hf : ∃ B c, v' = .slice B (l.length + 1) c) (hg : w.grownBy w1 v.ownBlock) (hb : v'.ownBlock = v.ownBlock ∨ v'.ownBlock = some w.heap.size) :
    Nest (w1.setCell ⟨g, j, .none⟩ v') bo bi (some ⟨g, 0, .none⟩) cap (vs.set j v') (ll.set j (l ++ [x])) := by
  have hin := (n.inner j v l hj hl).2
  have hout1 : w1.ownsRow bo 30 1 (.slice (some ⟨g, 0, .none⟩) ll.length cap) ll.length vs := own_grown n.outer hg fun k hk e => type_apart n.outer hin (by decide) k hk e.symm
  have hjl : j < vs.length := (List.getElem?_eq_some_iff.1 hj).1
  have hjl' : j < ll.length := (List.getElem?_eq_some_iff.1 hl).1
  refine ⟨by simp [n.len], by rw [List.length_set]; exact (hout1.stored j v').1, fun k y m hy hm => ?_, fun a b y y' hab hy hy' => ?_⟩
  · by_cases hk : k = j
    · subst hk
      rw [List.getElem?_set_self hjl] at hy
      rw [List.getElem?_set_self hjl'] at hm
      injection hy with hy
      injection hm with hm
      subst hy hm
      have h1 : w1.ownsRow bi 3 1 v' (l ++ [x]).length (nL (l ++ [x])) := by rw [List.length_append, List.length_singleton, ← nL_snoc]; exact ho
      refine ⟨by rw [List.length_append, List.length_singleton]; exact hf, ?_⟩
      exact own_aside2 h1 (fun b hb e => type_apart hout1 h1 (by decide) g rfl (by rw [hb, e])) v'
    · rw [List.getElem?_set_ne (Ne.symm hk)] at hy hm
      have h0 := n.inner k y m hy hm
      have h1 : w1.ownsRow bi 3 1 y m.length (nL m) := own_grown h0.2 hg fun b hb e => n.apart k j y v hk hy hj b hb e.symm
      exact ⟨h0.1, own_aside2 h1 (fun b hb e => type_apart hout1 h1 (by decide) g rfl (by rw [hb, e])) v'⟩
  · by_cases ha : a = j
    · subst ha
      rw [List.getElem?_set_self hjl] at hy
      injection hy with hy
      subst hy
      rw [List.getElem?_set_ne hab] at hy'
      intro q hq hq'
      rcases hb with e | e
      · exact n.apart a b v y' hab hj hy' q (by rw [← e]; exact hq) hq'
      · have hl' : b < ll.length := by rw [← n.len]; exact (List.getElem?_eq_some_iff.1 hy').1
        have := own_lt (n.inner b y' _ hy' (List.getElem?_eq_getElem hl')).2 q hq'
        rw [e] at hq
        injection hq with hq
        omega
    · rw [List.getElem?_set_ne (Ne.symm ha)] at hy
      by_cases hb' : b = j
      · subst hb'
        rw [List.getElem?_set_self hjl] at hy'
        injection hy' with hy'
        subst hy'
        intro q hq hq'
        rcases hb with e | e
        · exact n.apart a b y v hab hy hj q hq (by rw [← e]; exact hq')
        · have hl' : a < ll.length := by rw [← n.len]; exact (List.getElem?_eq_some_iff.1 hy).1
          have := own_lt (n.inner a y _ hy (List.getElem?_eq_getElem hl')).2 q hq
          rw [e] at hq'
          injection hq' with hq'
          omega
      · rw [List.getElem?_set_ne (Ne.symm hb')] at hy'
        exact n.apart a b y y' hab hy hy'
/-- Slices in a slice, to be read. -/
def NestR (w : World) (A : Option Addr) (ll : List (List Nat)) : Prop := ∃ vs, vs.length = ll.length ∧ Row w A vs ∧ ∀ (j : Nat) (v : Value) (l : List Nat), vs[j]? = some v → ll[j]? = some l → ∃ B c, v = .slice B l.length c ∧ Row w B (nL l)
theorem Nest.read {w : World} {bo bi cap : Nat} {A : Option Addr} {vs : List Value} {ll : List (List Nat)} (n : Nest w bo bi A cap vs ll) : NestR w A ll := by
  obtain ⟨A', c', e, h⟩ := own_row n.outer
  injection e with e1 _ _
  subst e1
  refine ⟨vs, n.len, h, fun j v l hv hl => ?_⟩
  obtain ⟨B', c2, e2, h2⟩ := own_row (n.inner j v l hv hl).2
  exact ⟨B', c2, e2, h2⟩
theorem NestR.grew {w w' : World} {A : Option Addr} {ll : List (List Nat)} (h : NestR w A ll) (g : Grew w w') : NestR w' A ll := by
  obtain ⟨vs, h1, h2, h3⟩ := h
  refine ⟨vs, h1, h2.grew g, fun j v l hv hl => ?_⟩
  obtain ⟨B, c, e, h4⟩ := h3 j v l hv hl
  exact ⟨B, c, e, h4.grew g⟩
theorem NestR.at {w : World} {A : Option Addr} {ll : List (List Nat)} (h : NestR w A ll) {j : Nat} (hj : j < ll.length) : ∃ b o B c, A = some ⟨b, o, none⟩ ∧ b < w.heap.size ∧ w.cell? ⟨b, o + j, none⟩ = some (.slice B ll[j].length c) ∧ Row w B (nL ll[j]) := by
  obtain ⟨vs, h1, h2, h3⟩ := h
  have hv : j < vs.length := by omega
  obtain ⟨B, c, e, h4⟩ := h3 j vs[j] ll[j] (List.getElem?_eq_getElem hv) (List.getElem?_eq_getElem hj)
  rcases h2 with rfl | ⟨b, o, rfl, hb, hc⟩
  · simp at hv
  · exact ⟨b, o, B, c, rfl, hb, by rw [← e]; exact hc j _ (List.getElem?_eq_getElem hv), h4⟩
theorem row_nat {w : World} {B : Option Addr} {l : List Nat} (h : Row w B (nL l)) {k : Nat} (hk : k < l.length) : ∃ b o, B = some ⟨b, o, none⟩ ∧ b < w.heap.size ∧ w.cell? ⟨b, o + k, none⟩ = some (.int .i64 l[k]) := by
  rcases h with h | ⟨b, o, rfl, hb, hc⟩
  · have := nL_len l
    rw [h] at this
    simp at this
    omega
  · exact ⟨b, o, rfl, hb, hc k _ (nL_at hk)⟩
theorem infoSl : (Try.prog.info? 30).map (fun i => (i.zero, i.size, i.bytes)) = some (some (.slice none 0 0), 1, 24) := by kernel_rfl
/-- append onto a row of one's own from whatever block on, and where the new one lies. -/
theorem wpList_appN {P : Program} {w : World} {ops : Array Oper} {rest : List Oper} {o : Oper} {a : Act} {Q : Exit → Act → World → Prop} (hgd : o.guard = none) (s x : Operand) (t e : TypeId)
    (ho : o.op = .call { callee := .builtin .append, args := #[s, x], argTypes := #[t, t] })
    (base : Nat) (z : Value) (bytes : Nat) (ht : P.underlying t = some (.slice e)) (hi : (P.info? e).map (fun i => (i.zero, i.size, i.bytes)) = some (some z, 1, bytes)) (hzs : z.cells.size = 1) (hb8 : bytes ≤ 256)
    (v : Value) (n : Nat) (xs : List Value) (hs : a.eval s = v) (hown : w.ownsRow base e 1 v n xs)
    (A : Option Addr) (m c : Nat) (news : List Value) (hx : a.eval x = .slice A m c) (hl : news.length = m) (hr : Row w A news) (h1 : ∀ u ∈ news, u.oneCell' = true)
    (hsm : n + m ≤ 549755813888) (hg : base ≤ w.heap.size)
    (h : ∀ A' c' w', w'.ownsRow base e 1 (.slice A' (n + m) c') (n + m) (xs ++ news) → w.grownBy w' v.ownBlock → ((Value.slice A' (n + m) c').ownBlock = v.ownBlock ∨ (Value.slice A' (n + m) c').ownBlock = some w.heap.size) → wpList P ops Q rest (a.put o.dst (.slice A' (n + m) c')) w') : wpList P ops Q (o :: rest) a w := by
  obtain ⟨i, hi0, hz, hs1, hb⟩ := info_parts hi
  have hbb : (n + m) * bytes ≤ 549755813888 * 256 := Nat.mul_le_mul hsm hb8
  refine wpList_append_row w hgd s x t ho base e i z 1 bytes ht hi0 hz hs1 hb hzs (by decide) v n xs hs hown A m c news hx (by omega) hr h1 (by unfold maxLen; omega) (by omega) hg ?_
  intro A' c' w' ho' hr' hgb hor
  exact h A' c' w' ho' hgb hor
theorem wp_appN {P : Program} {w : World} {o : Oper} {a : Act} {K : Act → World → Prop} {Q : Exit → Act → World → Prop} (s x : Operand) (t e : TypeId)
    (ho : o.op = .call { callee := .builtin .append, args := #[s, x], argTypes := #[t, t] })
    (base : Nat) (z : Value) (bytes : Nat) (ht : P.underlying t = some (.slice e)) (hi : (P.info? e).map (fun i => (i.zero, i.size, i.bytes)) = some (some z, 1, bytes)) (hzs : z.cells.size = 1) (hb8 : bytes ≤ 256)
    (v : Value) (n : Nat) (xs : List Value) (hs : a.eval s = v) (hown : w.ownsRow base e 1 v n xs)
    (A : Option Addr) (m c : Nat) (news : List Value) (hx : a.eval x = .slice A m c) (hl : news.length = m) (hr : Row w A news) (h1 : ∀ u ∈ news, u.oneCell' = true)
    (hsm : n + m ≤ 549755813888) (hg : base ≤ w.heap.size)
    (h : ∀ A' c' w', w'.ownsRow base e 1 (.slice A' (n + m) c') (n + m) (xs ++ news) → w.grownBy w' v.ownBlock → ((Value.slice A' (n + m) c').ownBlock = v.ownBlock ∨ (Value.slice A' (n + m) c').ownBlock = some w.heap.size) → K (a.put o.dst (.slice A' (n + m) c')) w') : o.wp P a w K Q := by
  obtain ⟨i, hi0, hz, hs1, hb⟩ := info_parts hi
  have hbb : (n + m) * bytes ≤ 549755813888 * 256 := Nat.mul_le_mul hsm hb8
  refine wp_append_row w s x t ho base e i z 1 bytes ht hi0 hz hs1 hb hzs (by decide) v n xs hs hown A m c news hx (by omega) hr h1 (by unfold maxLen; omega) (by omega) hg ?_
  intro A' c' w' ho' hr' hgb hor
  exact h A' c' w' ho' hgb hor
/-- Lists of numbers are handed back. -/
def NestF (w : World) (ll : List (List Nat)) (e : Ending) (w' : World) : Prop := ∃ A k, e = .returned (.slice A ll.length k) ∧ Grew w w' ∧ NestR w' A ll
theorem nums_same {w : World} {b o n i : Nat} {f : Nat → Nat} (h : Row w (some ⟨b, o, none⟩) (numsL n f)) (hi : i < n) : b < w.heap.size ∧ w.cell? ⟨b, o + i, none⟩ = some (.int .i64 (f i)) := by
  obtain ⟨b', o', hA, hb, c0⟩ := h.nums hi
  injection hA with hA
  injection hA with e1 e2 _
  subst e1 e2
  exact ⟨hb, c0⟩
end Go.Proofs.Ytoaciliojdaoaaa
