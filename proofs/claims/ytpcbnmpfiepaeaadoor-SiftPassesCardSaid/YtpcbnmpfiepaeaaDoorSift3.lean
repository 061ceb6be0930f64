/- Layer 20: a key's values added to spans of one's own. Condition: rows that lie in memory that is there; no more than a million values. -/
import Derived.Test.YtpcbnmpfiepaeaaDoorSift2
import Derived.Test.YtpcbnmpfiepaeaaDoorHead
namespace Go.Proofs.YtpcbnmpfiepaeaaDoor
open Go.RowKit
attribute [local go_sem] more_cell more_frozen more_more more_setCell more_of_drew more_of_drewN lt_more le_more past_cell past_cell2 past_frozen past_frozen2 past_setCell past_setCell2 mid_cell mid_frozen mid_setCell
attribute [local go_sem ↓] Go.wp_at_zero Go.wp_at_succ

/-- Of the blocks of w none but A's has turned. -/
def Kept (w w' : World) (A : Option Addr) : Prop := ∀ g, g < w.heap.size → (∀ a, A = some a → a.block ≠ g) → w'.heap[g]? = w.heap[g]?
/-- B's block is A's, or newer than w. -/
def Trace (w : World) (A B : Option Addr) : Prop := ∀ b, B = some b → (∃ a, A = some a ∧ a.block = b.block) ∨ w.heap.size ≤ b.block
theorem own_thus' {w w' : World} {base : Nat} {e : TypeId} {size n : Nat} {v : Value} {xs : List Value} (h : w.ownsRow base e size v n xs) (g : Grew w w') : w'.ownsRow base e size v n xs := by
  obtain ⟨x, rfl⟩ := g
  exact own_more h x
theorem Kept.refl (w : World) (A : Option Addr) : Kept w w A := fun _ _ _ => rfl
theorem Trace.refl (w : World) (A : Option Addr) : Trace w A A := fun b h => Or.inl ⟨b, h, rfl⟩
theorem Kept.grew {w w1 w2 : World} {A : Option Addr} (h : Kept w w1 A) (hs : w.heap.size ≤ w1.heap.size) (g : Grew w1 w2) : Kept w w2 A := fun q hq ha => by
  rw [← h q hq ha]
  obtain ⟨x, rfl⟩ := g
  exact more_block w1 x q (by omega)
theorem Kept.grown {w w1 w2 : World} {A B : Option Addr} {n c : Nat} (h : Kept w w1 A) (hs : w.heap.size ≤ w1.heap.size) (ht : Trace w A B) (g : w1.grownBy w2 (Value.slice B n c).ownBlock) : Kept w w2 A := fun q hq ha => by
  rw [← h q hq ha]
  refine g.block q (by omega) ?_
  intro e
  cases B with
  | none => cases e
  | some b =>
    have e2 : b.block = q := by (have e3 : q = b.block := by simpa [Value.ownBlock] using e); exact e3.symm
    rcases ht b rfl with ⟨a, hA, hb⟩ | hb
    · exact ha a hA (hb.trans e2)
    · omega
theorem Kept.set {w w1 : World} {A : Option Addr} {p b : Addr} (h : Kept w w1 A) (ht : Trace w A (some b)) (hp : p.block = b.block) (v : Value) : Kept w (w1.setCell p v) A := fun q hq ha => by
  rw [← h q hq ha]
  refine heap_setCell_other w1 p q v ?_
  intro e
  rcases ht b rfl with ⟨a, hA, hb⟩ | hb
  · exact ha a hA (by rw [hb, ← hp, e])
  · omega
/-- append, and where the new slice lies. -/
theorem wpList_appC {P : Program} {w : World} {ops : Array Oper} {rest : List Oper} {o : Oper} {a : Act} {Q : Exit → Act → World → Prop} (hgd : o.guard = none) (s x : Operand) (t e : TypeId) (size : Nat)
    (ho : o.op = .call { callee := .builtin .append, args := #[s, x], argTypes := #[t, t] })
    (base : Nat) (z : Value) (bytes : Nat) (ht : P.underlying t = some (.slice e)) (hi : (P.info? e).map (fun i => (i.zero, i.size, i.bytes)) = some (some z, size, bytes)) (hzs : z.cells.size = size) (hsz : 0 < size) (hb8 : bytes ≤ 256)
    (S0 : Option Addr) (c0 : Nat) (n : Nat) (xs : List Value) (hs : a.eval s = .slice S0 n c0) (hown : w.ownsRow base e size (.slice S0 n c0) n xs)
    (A : Option Addr) (m c : Nat) (news : List Value) (hx : a.eval x = .slice A m c) (hl : news.length = m * size) (hr : Row w A news) (h1 : ∀ u ∈ news, u.oneCell' = true)
    (hsm : n + m ≤ 549755813888) (hg : base ≤ w.heap.size)
    (h : ∀ A' c' w', w'.ownsRow base e size (.slice A' (n + m) c') (n + m) (xs ++ news) → w.grownBy w' (Value.slice S0 n c0).ownBlock → (∀ a', A' = some a' → (∃ a, S0 = some a ∧ a.block = a'.block) ∨ a'.block = w.heap.size) → wpList P ops Q rest (a.put o.dst (.slice A' (n + m) c')) w') : wpList P ops Q (o :: rest) a w := by
  obtain ⟨i, hi0, hz, hs1, hb⟩ := info_parts hi
  have hbb : (n + m) * bytes ≤ 549755813888 * 256 := Nat.mul_le_mul hsm hb8
  refine wpList_append_row w hgd s x t ho base e i z size bytes ht hi0 hz hs1 hb hzs hsz _ n xs hs hown A m c news hx hl hr h1 (by unfold maxLen; omega) (by omega) hg ?_
  intro A' c' w' ho' hr' hgb hor
  refine h A' c' w' ho' hgb fun a' ha => ?_
  subst ha
  rcases hor with hor | hor
  · cases S0 with
    | none => cases hor
    | some b =>
      have e2 : a'.block = b.block := by simpa [Value.ownBlock] using hor
      exact Or.inl ⟨b, rfl, e2.symm⟩
  · have e2 : a'.block = w.heap.size := by simpa [Value.ownBlock] using hor
    exact Or.inr e2
/-- A span laid into a row, cell by cell. -/
def put8 (w : World) (g p : Nat) (r : S) : World := (((((((w.setCell ⟨g, p, none⟩ (.int .i64 r.low.k)).setCell ⟨g, p + 1, none⟩ (.int .i64 r.low.i)).setCell ⟨g, p + 2, none⟩ (.string r.low.s)).setCell ⟨g, p + 3, none⟩ (.int .i64 r.high.k)).setCell ⟨g, p + 4, none⟩ (.int .i64 r.high.i)).setCell ⟨g, p + 5, none⟩ (.string r.high.s)).setCell ⟨g, p + 6, none⟩ (.int .i64 r.whole)).setCell ⟨g, p + 7, none⟩ (.int .i64 r.nulls)
theorem put8_own {w : World} {base g n c j : Nat} {ss : List S} (ho : w.ownsRow base 50 8 (.slice (some ⟨g, 0, none⟩) n c) n (flatS ss)) (hj : j < ss.length) (r : S) : (put8 w g (j * 8) r).ownsRow base 50 8 (.slice (some ⟨g, 0, none⟩) n c) n (flatS (ss.set j r)) := by
  have h := ((((((((ho.stored (j * 8) (.int .i64 r.low.k)).1.stored (j * 8 + 1) (.int .i64 r.low.i)).1.stored (j * 8 + 2) (.string r.low.s)).1.stored (j * 8 + 3) (.int .i64 r.high.k)).1.stored (j * 8 + 4) (.int .i64 r.high.i)).1.stored (j * 8 + 5) (.string r.high.s)).1.stored (j * 8 + 6) (.int .i64 r.whole)).1.stored (j * 8 + 7) (.int .i64 r.nulls)).1
  rw [flatS_set hj r] at h
  exact h
theorem put8_grew {u w : World} {g p : Nat} (h : Grew u w) (hg : u.heap.size ≤ g) (r : S) : Grew u (put8 w g p r) :=
  Grew.setCell (Grew.setCell (Grew.setCell (Grew.setCell (Grew.setCell (Grew.setCell (Grew.setCell (Grew.setCell h hg _) hg _) hg _) hg _) hg _) hg _) hg _) hg _
theorem put8_size (w : World) (g p : Nat) (r : S) : (put8 w g p r).heap.size = w.heap.size := by
  unfold put8
  rw [World.size_setCell, World.size_setCell, World.size_setCell, World.size_setCell, World.size_setCell, World.size_setCell, World.size_setCell, World.size_setCell]
theorem kept_one {w w1 : World} {A : Option Addr} {g : Nat} (h : Kept w w1 A) (ht : Trace w A (some ⟨g, 0, none⟩)) (q : Nat) (v : Value) : Kept w (w1.setCell ⟨g, q, none⟩ v) A := Kept.set (p := ⟨g, q, none⟩) (b := ⟨g, 0, none⟩) h ht rfl v
theorem put8_kept {w w1 : World} {A : Option Addr} {g p : Nat} (h : Kept w w1 A) (ht : Trace w A (some ⟨g, 0, none⟩)) (r : S) : Kept w (put8 w1 g p r) A := by
  unfold put8
  exact kept_one (kept_one (kept_one (kept_one (kept_one (kept_one (kept_one (kept_one h ht _ _) ht _ _) ht _ _) ht _ _) ht _ _) ht _ _) ht _ _) ht _ _
def WithF (u w : World) (base : Nat) (S0 : Option Addr) (r : List S) (en : Ending) (w' : World) : Prop :=
  ∃ S2 c2, en = .returned (.slice S2 r.length c2) ∧ w'.ownsRow base 50 8 (.slice S2 r.length c2) r.length (flatS r) ∧ Grew u w' ∧ w.heap.size ≤ w'.heap.size ∧ Kept w w' S0
def WiAt (u w : World) (base : Nat) (S0 : Option Addr) (ss : List S) (l : List Vl) (v i : Value) (wr : World) : Prop :=
  ∃ (j : Nat) (S2 : Option Addr) (c2 : Nat), j ≤ l.length ∧ i = .int .i64 j ∧ v = .slice S2 (withJ ss l j).length c2 ∧ wr.ownsRow base 50 8 (.slice S2 (withJ ss l j).length c2) (withJ ss l j).length (flatS (withJ ss l j)) ∧
    Grew u wr ∧ w.heap.size ≤ wr.heap.size ∧ Kept w wr S0 ∧ Trace w S0 S2
theorem vrow_one (w : World) (b : Nat) (v : V) (hb : b < w.heap.size) (h0 : w.cell? ⟨b, 0, none⟩ = some (.int .i64 v.k)) (h1 : w.cell? ⟨b, 1, none⟩ = some (.int .i64 v.i)) (h2 : w.cell? ⟨b, 2, none⟩ = some (.string v.s)) : VRow w (some ⟨b, 0, none⟩) [v] :=
  Or.inr ⟨b, 0, rfl, hb, fun i cs hi j u hu => by
    rcases i with _ | i
    · simp only [List.map_cons, List.map_nil, List.getElem?_cons_zero, Option.some.injEq] at hi
      subst hi
      rcases j with _ | _ | _ | j
      · simp [vc] at hu; subst hu; simpa using h0
      · simp [vc] at hu; subst hu; simpa using h1
      · simp [vc] at hu; subst hu; simpa using h2
      · simp [vc] at hu
    · simp at hi⟩
set_option maxHeartbeats 8000000 in
set_option maxRecDepth 100000 in
theorem with_any (u : World) (base m : Nat) (ss : List S) (l : List Vl) (hm : m + 1 ≤ 1000000) (hf : ∀ s ∈ ss, FewN m s) (hl : l.length ≤ 1000000) (hn : ss.length ≤ 1000000) (S0 A : Option Addr) (c k : Nat) (w : World) (hub : u.heap.size ≤ base) (hbw : base ≤ w.heap.size) (hgu : Grew u w) (ho : w.ownsRow base 50 8 (.slice S0 ss.length c) ss.length (flatS ss)) (ra : VlsR (PRow u) A l) :
    Calls Tryd.prog 20 #[.slice S0 ss.length c, .slice A l.length k] w (WithF u w base S0 (withJ ss l l.length)) := by
  have RA := Lib.hid ra
  have HO0 := Lib.hid ho
  have HGu := Lib.hid hgu
  have HFw := Lib.hid (fun j => withJ_few (l := l) hf j)
  have HLw := Lib.hid (fun j => withJ_len ss l j)
  clear ra ho hgu hf
  go_enter Tryd.func20, Tryd.ntmps20
  go_wp2
  go_loopw [0, 9] (fun v i wr => WiAt u w base S0 ss l v i wr) (fun _ i _ => l.length - (intOf i).toNat)
  case atStart => exact ⟨0, S0, c, Nat.zero_le _, rfl, rfl, HO0.out, HGu.out, Nat.le_refl _, Kept.refl _ _, Trace.refl _ _⟩
  case round =>
    obtain ⟨j, S2, c2, hj, rfl, rfl, ho, hg, hs, hkp, htr⟩ := hrel
    have HO := Lib.hid ho
    have HG := Lib.hid hg
    have HS := Lib.hid hs
    have HKp := Lib.hid hkp
    have HTr := Lib.hid htr
    clear ho hg hs hkp htr HO0 HGu
    by_cases h : j < l.length
    · have hji : (j : Int) < (l.length : Int) := by omega
      have e0 : decide ((j : Int) < (l.length : Int)) = true := decide_eq_true hji
      obtain ⟨pb, po, rfl, hpb, d0, d1, d2⟩ := vlsR_at (RA.out.grew HG.out) h
      have hlw := HLw.out j
      have HStep : Hid (withJ ss l (j + 1) = stepS (withJ ss l j) j l[j]) := Lib.hid (by
        show stepS (withJ ss l j) j (l.getD j nulV) = _
        rw [List.getD_eq_getElem?_getD, List.getElem?_eq_getElem h, Option.getD_some])
      obtain ⟨cur2, hc2⟩ : ∃ cur2, (if j < (withJ ss l j).length then withJ ss l j else withJ ss l j ++ [zeroS]) = cur2 := ⟨_, rfl⟩
      have hl2 : cur2.length = max (withJ ss l j).length (j + 1) := by
        rw [← hc2]
        split
        · omega
        · rw [List.length_append, List.length_singleton]
          omega
      have hj2 : j < cur2.length := by omega
      have hFj : FewN m cur2[j] := by
        have hx := HFw.out j j
        by_cases hjl : j < (withJ ss l j).length
        · have h2 := hx hjl
          rw [if_neg (by omega)] at h2
          have e : cur2 = withJ ss l j := by rw [← hc2, if_pos hjl]
          subst e
          exact h2
        · have e : cur2 = withJ ss l j ++ [zeroS] := by rw [← hc2, if_neg hjl]
          subst e
          rw [List.getElem_append_right (by omega)]
          simp only [List.getElem_singleton]
          exact fewN_zero m
      have HSt2 : Hid (withJ ss l (j + 1) = cur2.set j (addS cur2[j] [toV l[j]])) := Lib.hid (by
        rw [HStep.out]
        unfold stepS
        rw [hc2, List.getD_eq_getElem?_getD, List.getElem?_eq_getElem hj2, Option.getD_some])
      have HC2 := Lib.hid hc2
      clear hc2 HStep HFw HLw
      generalize withJ ss l j = cur at *
      generalize hvv : l[j] = v at *
      obtain ⟨vk, vi, vs⟩ := v
      simp only [toV] at d0 d1 d2 HSt2
      clear hvv
      obtain ⟨cm, hcm⟩ : ∃ cm, cur.length = cm := ⟨_, rfl⟩
      rw [hcm] at HO hlw hl2 HC2 ⊢
      have HCm := Lib.hid hcm
      clear hcm
      have hjm : j ≤ cm := by omega
      have hcm6 : cm ≤ 1000000 := by omega
      have HL2 := Lib.hid hl2
      have hl26 : cur2.length ≤ 1000000 := by omega
      clear hlw hl2
      go_upto_if 17 with fail
      obtain ⟨W3, hW3⟩ : ∃ W3, wr.alloc (.cells #[.int .i64 vk, .int .i64 vi, .string vs] 46) = W3 := ⟨_, rfl⟩
      have HB3 : Hid (Blok W3 wr.heap.size 46 #[.int .i64 vk, .int .i64 vi, .string vs]) := Lib.hid (by rw [← hW3]; exact Blok.new _ _ _ _ rfl)
      have HG3 : Hid (Grew wr W3) := Lib.hid (by rw [← hW3]; exact (Grew.refl wr).alloc _)
      have HO3 : Hid (W3.ownsRow base 50 8 (.slice S2 cm c2) cm (flatS cur)) := Lib.hid (by rw [← hW3]; exact own_alloc HO.out _)
      have HLt : Hid (∀ a, S2 = some a → a.block < wr.heap.size) := Lib.hid fun a ha => by
        subst ha
        exact own_lt HO.out a.block rfl
      rw [hW3]
      clear hW3 d0 d1 d2 hpb
      have HGs : Hid (∀ a, S2 = some a → a.block ≠ wr.heap.size) := Lib.hid fun a ha => by have := HLt.out a ha; omega
      obtain ⟨gv, hgv⟩ : ∃ gv, wr.heap.size = gv := ⟨_, rfl⟩
      rw [hgv] at HB3 HGs ⊢
      have HGv := Lib.hid hgv
      obtain ⟨n2, hn2⟩ : ∃ n2, cur2.length = n2 := ⟨_, rfl⟩
      have HN2 := Lib.hid hn2
      have hjn : j < n2 := by omega
      have hn26 : n2 ≤ 1000000 := by omega
      clear hgv hn2 hl26
      go_cut [0] (fun p wx => ∃ S3 c3, p = .slice S3 n2 c3 ∧ wx.ownsRow base 50 8 (.slice S3 n2 c3) n2 (flatS cur2) ∧ Blok wx gv 46 #[.int .i64 vk, .int .i64 vi, .string vs] ∧ Grew u wx ∧ w.heap.size ≤ wx.heap.size ∧ Kept w wx S0 ∧ Trace w S0 S3 ∧ (∀ a, S3 = some a → a.block ≠ gv))
      case first =>
        by_cases hjc : j < cm
        · have e1 : ((j : Int) == (cm : Int)) = false := by rw [beq_eq_false_iff_ne]; omega
          have hcc : cur = cur2 := by rw [← HC2.out, if_pos hjc]
          have hcn : cm = n2 := by rw [← HN2.out, ← hcc, HCm.out]
          subst hcn
          rw [hcc] at HO3
          clear hcc
          go_wp2
          go_meet
          exact ⟨S2, c2, rfl, HO3.out, HB3.out, HG.out.trans HG3.out, Nat.le_trans HS.out HG3.out.size, HKp.out.grew HS.out HG3.out, HTr.out, HGs.out⟩
        · obtain rfl : j = cm := by omega
          have e1 : ((j : Int) == (j : Int)) = true := by simp
          have hcc : cur ++ [zeroS] = cur2 := by rw [← HC2.out, if_neg hjc]
          obtain rfl : n2 = j + 1 := by rw [← HN2.out, ← hcc, List.length_append, HCm.out]; rfl
          have HFl : Hid (flatS cur ++ [.int .i64 0, .int .i64 0, .string ⟨#[]⟩, .int .i64 0, .int .i64 0, .string ⟨#[]⟩, .int .i64 0, .int .i64 0] = flatS cur2) := Lib.hid (by rw [← hcc, flatS_app]; rfl)
          clear hcc hjc
          generalize flatS cur = M at *
          have hb3 : base ≤ (W3.alloc (.cells #[.int .i64 0, .int .i64 0, .string ⟨#[]⟩, .int .i64 0, .int .i64 0, .string ⟨#[]⟩, .int .i64 0, .int .i64 0] 50)).heap.size := Nat.le_trans hbw (Nat.le_trans HS.out (HG3.out.alloc _).size)
          have HB3x := Lib.hid hb3
          clear hb3
          go_wp2_with (at_builtin; refine wpList_appC rfl (.tmp 18) (.tmp 20) 30 50 8 rfl base (.agg #[.int .i64 0, .int .i64 0, .string ⟨#[]⟩, .int .i64 0, .int .i64 0, .string ⟨#[]⟩, .int .i64 0, .int .i64 0]) 80 Tryd.underlying30 infoSp rfl (by decide) (by decide) S2 c2 j M rfl (own_alloc HO3.out _) _ 1 1 [.int .i64 0, .int .i64 0, .string ⟨#[]⟩, .int .i64 0, .int .i64 0, .string ⟨#[]⟩, .int .i64 0, .int .i64 0] rfl rfl (row_new _ _ _ _ rfl) (by simp [Value.oneCell']) (by omega) HB3x.out ?_; intro A4 c4 w4 ho4 hg4 hor4; rw [HFl.out] at ho4; have HO4 := Lib.hid ho4; have HG4 := Lib.hid hg4; have HOr := Lib.hid hor4; clear ho4 hg4 hor4)
          have HBz := Lib.hid (HB3.out.alloc (.cells #[.int .i64 0, .int .i64 0, .string ⟨#[]⟩, .int .i64 0, .int .i64 0, .string ⟨#[]⟩, .int .i64 0, .int .i64 0] 50))
          have HGz := Lib.hid ((HG3.out).alloc (.cells #[.int .i64 0, .int .i64 0, .string ⟨#[]⟩, .int .i64 0, .int .i64 0, .string ⟨#[]⟩, .int .i64 0, .int .i64 0] 50))
          have HOz := Lib.hid (own_base HO3.out)
          generalize W3.alloc (.cells #[.int .i64 0, .int .i64 0, .string ⟨#[]⟩, .int .i64 0, .int .i64 0, .string ⟨#[]⟩, .int .i64 0, .int .i64 0] 50) = W4 at *
          have hs4 : w.heap.size ≤ W4.heap.size := Nat.le_trans HS.out HGz.out.size
          have hng : (Value.slice S2 j c2).ownBlock ≠ some gv := by
            intro e
            cases S2 with
            | none => cases e
            | some a => exact HGs.out a rfl (by simpa [Value.ownBlock] using e)
          go_meet
          refine ⟨A4, c4, rfl, HO4.out, HBz.out.grown HG4.out hng, (HG.out.trans HGz.out).grown HG4.out (fun k hk => Nat.le_trans hub (HOz.out k hk)), Nat.le_trans hs4 HG4.out.size, (HKp.out.grew HS.out HGz.out).grown hs4 HTr.out HG4.out, ?_, ?_⟩
          · intro b hb
            rcases HOr.out b hb with ⟨a, hA, hab⟩ | hb2
            · rcases HTr.out a hA with ⟨a0, h0, h1⟩ | h1
              · exact Or.inl ⟨a0, h0, h1.trans hab⟩
              · exact Or.inr (by rw [← hab]; exact h1)
            · exact Or.inr (by rw [hb2]; exact hs4)
          · intro a ha
            rcases HOr.out a ha with ⟨a0, hA, hab⟩ | hb2
            · rw [← hab]
              exact HGs.out a0 hA
            · have := HBz.out.lt
              omega
      case rest =>
        obtain ⟨S3, c3, rfl, ho5, hb5, hg5, hs5, hk5, ht5, hn5⟩ := hcut
        obtain ⟨g, cap, hS3, hgb⟩ : ∃ g cap, (Value.slice S3 n2 c3) = .slice (some ⟨g, 0, none⟩) n2 cap ∧ base ≤ g := by
          obtain ⟨g, cap, hv, _⟩ := World.ownsRow.form ho5 (by omega)
          exact ⟨g, cap, hv, by rw [hv] at ho5; exact own_base ho5 g rfl⟩
        injection hS3 with hS3 _ hcc
        subst hS3 hcc
        have HO5 := Lib.hid ho5
        have HB5 := Lib.hid hb5
        have HG5 := Lib.hid hg5
        have HS5 := Lib.hid hs5
        have HK5 := Lib.hid hk5
        have HT5 := Lib.hid ht5
        have HNg : Hid (g ≠ gv) := Lib.hid (hn5 ⟨g, 0, none⟩ rfl)
        clear ho5 hb5 hg5 hs5 hk5 ht5 hn5 HO3 HO HB3 HG3 HTr HKp HS HG HGs HLt HC2 HCm HL2 HGv
        have hgu : u.heap.size ≤ g := Nat.le_trans hub hgb
        have hjn8 : ∀ i, i < 8 → j * 8 + i < n2 * 8 := fun i hi => by omega
        have HCs : Hid (∀ W, Grew wc W → W.cell? ⟨g, j * 8, none⟩ = some (.int .i64 cur2[j].low.k) ∧ W.cell? ⟨g, j * 8 + 1, none⟩ = some (.int .i64 cur2[j].low.i) ∧ W.cell? ⟨g, j * 8 + 2, none⟩ = some (.string cur2[j].low.s) ∧ W.cell? ⟨g, j * 8 + 3, none⟩ = some (.int .i64 cur2[j].high.k) ∧ W.cell? ⟨g, j * 8 + 4, none⟩ = some (.int .i64 cur2[j].high.i) ∧ W.cell? ⟨g, j * 8 + 5, none⟩ = some (.string cur2[j].high.s) ∧ W.cell? ⟨g, j * 8 + 6, none⟩ = some (.int .i64 cur2[j].whole) ∧ W.cell? ⟨g, j * 8 + 7, none⟩ = some (.int .i64 cur2[j].nulls)) := Lib.hid fun W hW => by
          have ho := own_thus' HO5.out hW
          have hx : ∀ i u, i < 8 → (scL cur2[j])[i]? = some u → W.cell? ⟨g, j * 8 + i, none⟩ = some u := fun i u hi hu => by
            rw [ho.cellAt (j * 8 + i) (hjn8 i hi)]
            exact flatS_at hj2 i u hu
          exact ⟨hx 0 _ (by omega) rfl, hx 1 _ (by omega) rfl, hx 2 _ (by omega) rfl, hx 3 _ (by omega) rfl, hx 4 _ (by omega) rfl, hx 5 _ (by omega) rfl, hx 6 _ (by omega) rfl, hx 7 _ (by omega) rfl⟩
        have HCz : Hid (∀ W, Grew wc W → g < W.heap.size ∧ ∀ i, W.frozen? ⟨g, i, none⟩ = false) := Lib.hid fun W hW => ⟨own_lt (own_thus' HO5.out hW) g rfl, fun i => (own_thus' HO5.out hW).frozenAt i⟩
        have HCv : Hid (∀ W, Grew wc W → gv < W.heap.size ∧ W.cell? ⟨gv, 0, none⟩ = some (.int .i64 vk) ∧ W.cell? ⟨gv, 1, none⟩ = some (.int .i64 vi) ∧ W.cell? ⟨gv, 2, none⟩ = some (.string vs)) := Lib.hid fun W hW => by
          obtain ⟨h0, h1, h2, h3, _, _, _⟩ := val_in (HB5.out.grew hW)
          exact ⟨h0, h1, h2, h3⟩
        have HFs := Lib.hid (fun r => flatS_set hj2 r)
        obtain ⟨r, hr⟩ : ∃ r, addS cur2[j] [⟨vk, vi, vs⟩] = r := ⟨_, rfl⟩
        rw [hr] at HSt2
        have HAd : Hid (∀ b W, VRow W (some ⟨b, 0, none⟩) [⟨vk, vi, vs⟩] → Gives Tryd.prog 36 #[sa cur2[j], .slice (some ⟨b, 0, none⟩) 1 1] W (sa r)) := Lib.hid fun b W hV => by
          rw [← hr]
          refine add_val cur2[j] [⟨vk, vi, vs⟩] _ 1 (by simp) (fun q hq => ?_) W hV
          rcases q with _ | q
          · exact fewN_few hFj (by omega)
          · have hq0 : q = 0 := by simp at hq; omega
            subst hq0
            exact fewN_few (fewN_add hFj _) hm
        clear hr hFj
        generalize cur2[j] = s0 at *
        obtain ⟨⟨lk, li, ls⟩, ⟨hk, hi, hs⟩, wh, nu⟩ := s0
        obtain ⟨⟨rlk, rli, rls⟩, ⟨rhk, rhi, rhs⟩, rwh, rnu⟩ := r
        simp only [sa] at HCs HAd
        have hjni : (j : Int) < (n2 : Int) := by omega
        have HVr : Hid (VRow (wc.drew.alloc (.cells #[.int .i64 vk, .int .i64 vi, .string vs] 46)) (some ⟨wc.heap.size, 0, none⟩) [⟨vk, vi, vs⟩]) := Lib.hid (by
          have hb := Blok.new wc.drew 46 #[.int .i64 vk, .int .i64 vi, .string vs] wc.heap.size rfl
          exact vrow_one _ _ _ hb.lt (hb.cell 0) (hb.cell 1) (hb.cell 2))
        go_upto_region 6 with fail
        refine wp_region_last (fun W => Grew wc W) 10 rfl (by kernel_rfl) ?_
        refine last_take 0 (v := ?_) rfl (by kernel_rfl) (by kernel_rfl) (by kernel_rfl) (by kernel_rfl) (fun _ _ _ h => h) (by rfl) ?_ (Grew.refl wc).drew ?_
        rotate_left
        · (intro W hW; go_simp; with_reducible rfl)
        refine last_take 1 (v := ?_) rfl (by kernel_rfl) (by kernel_rfl) (by kernel_rfl) (by kernel_rfl) (fun _ _ _ h => h) (by rfl) ?_ (Grew.refl wc).drew ?_
        rotate_left
        · (intro W hW; go_simp; with_reducible rfl)
        refine last_take 2 (v := ?_) rfl (by kernel_rfl) (by kernel_rfl) (by kernel_rfl) (by kernel_rfl) (fun _ _ _ h => h) (by rfl) ?_ (Grew.refl wc).drew ?_
        rotate_left
        · (intro W hW; go_simp; with_reducible rfl)
        refine last_take 3 (v := ?_) rfl (by kernel_rfl) (by kernel_rfl) (by kernel_rfl) (by kernel_rfl) (fun _ _ _ h => h) (by rfl) ?_ (Grew.refl wc).drew ?_
        rotate_left
        · (intro W hW; go_simp; with_reducible rfl)
        refine last_norm (a' := ?_) ?_ ?_
        rotate_left
        · (go_simp; with_reducible rfl)
        refine last_take 4 (v := ?_) rfl (by kernel_rfl) (by kernel_rfl) (by kernel_rfl) (by kernel_rfl) (fun _ _ _ h => h) (by rfl) ?_ (Grew.refl wc).drew ?_
        rotate_left
        · (intro W hW; go_simp; with_reducible rfl)
        refine last_norm (a' := ?_) ?_ ?_
        rotate_left
        · (go_simp; with_reducible rfl)
        refine last_take 5 (v := ?_) rfl (by kernel_rfl) (by kernel_rfl) (by kernel_rfl) (by kernel_rfl) (fun _ _ _ h => h) (by rfl) ?_ (Grew.refl wc).drew ?_
        rotate_left
        · (intro W hW; obtain ⟨c0, c1, c2, c3, c4, c5, c6, c7⟩ := HCs.out W hW; have hgl := (HCz.out W hW).1; go_simp; with_reducible rfl)
        refine last_norm (a' := ?_) ?_ ?_
        rotate_left
        · (go_simp; with_reducible rfl)
        refine last_take 6 (v := ?_) rfl (by kernel_rfl) (by kernel_rfl) (by kernel_rfl) (by kernel_rfl) (fun _ _ _ h => h) (by rfl) ?_ (Grew.refl wc).drew ?_
        rotate_left
        · (intro W hW; obtain ⟨h0, d0, d1, d2⟩ := HCv.out W hW; go_simp; with_reducible rfl)
        refine last_norm (a' := ?_) ?_ ?_
        rotate_left
        · (go_simp; with_reducible rfl)
        refine last_call 7 (by kernel_rfl) (by kernel_rfl) rfl (by rfl) (fun K hK => ?_)
        go_simp
        go_wp2_with fail
        refine hK.out _ _ ((Grew.refl wc).drew.alloc _) ?_
        clear hK K
        refine last_call 8 (by kernel_rfl) (by kernel_rfl) rfl (by rfl) (fun K hK => ?_)
        go_simp
        go_wp2_with (go_at_call 36; refine (HAd.out wc.heap.size (wc.drew.alloc (.cells #[.int .i64 vk, .int .i64 vi, .string vs] 46)) HVr.out).grows.mono ?_; rintro e w6 ⟨rfl, hg6⟩; have HG6 := Lib.hid (show Grew wc w6 from ((Grew.refl wc).drew.alloc _).trans hg6); clear hg6)
        refine hK.out _ _ HG6.out ?_
        clear hK K
        refine last_take 9 (v := ?_) rfl (by kernel_rfl) (by kernel_rfl) (by kernel_rfl) (by kernel_rfl) (fun _ _ _ h => h) (by rfl) ?_ HG6.out ?_
        rotate_left
        · (intro W hW; go_simp; with_reducible rfl)
        refine last_norm (a' := ?_) ?_ ?_
        rotate_left
        · (go_simp; with_reducible rfl)
        obtain ⟨c0, c1, c2, c4, c5, c6, c7, c8⟩ := HCs.out w6 HG6.out
        obtain ⟨hgl, hfz⟩ := HCz.out w6 HG6.out
        have z0 := hfz (j * 8)
        have z1 := hfz (j * 8 + 1)
        have z2 := hfz (j * 8 + 2)
        have z3 := hfz (j * 8 + 3)
        have z4 := hfz (j * 8 + 4)
        have z5 := hfz (j * 8 + 5)
        have z6 := hfz (j * 8 + 6)
        have z7 := hfz (j * 8 + 7)
        clear hfz HCs HCz HCv HVr HAd
        have hcl : cur2.length = n2 := HN2.out
        have HO6 := Lib.hid (put8_own (own_thus' HO5.out HG6.out) hj2 ⟨⟨rlk, rli, rls⟩, ⟨rhk, rhi, rhs⟩, rwh, rnu⟩)
        have HG7 := Lib.hid (put8_grew (p := j * 8) (HG5.out.trans HG6.out) hgu ⟨⟨rlk, rli, rls⟩, ⟨rhk, rhi, rhs⟩, rwh, rnu⟩)
        have HS7 : Hid (w.heap.size ≤ (put8 w6 g (j * 8) ⟨⟨rlk, rli, rls⟩, ⟨rhk, rhi, rhs⟩, rwh, rnu⟩).heap.size) := Lib.hid (by rw [put8_size]; exact Nat.le_trans HS5.out HG6.out.size)
        have HK7 := Lib.hid (put8_kept (p := j * 8) (HK5.out.grew HS5.out HG6.out) HT5.out ⟨⟨rlk, rli, rls⟩, ⟨rhk, rhi, rhs⟩, rwh, rnu⟩)
        have HX : Hid (WiAt u w base S0 ss l (.slice (some ⟨g, 0, none⟩) n2 c3) (.int .i64 ((j : Int) + 1)) (put8 w6 g (j * 8) ⟨⟨rlk, rli, rls⟩, ⟨rhk, rhi, rhs⟩, rwh, rnu⟩)) := Lib.hid (by
          have hl : (withJ ss l (j + 1)).length = n2 := by rw [HSt2.out, List.length_set, hcl]
          refine ⟨j + 1, some ⟨g, 0, none⟩, c3, by omega, by go_num, by rw [hl], ?_, HG7.out, HS7.out, HK7.out, HT5.out⟩
          rw [hl, HSt2.out]
          exact HO6.out)
        clear HO6 HG7 HS7 HK7 HSt2 hcl hj2
        unfold put8 at HX
        simp only at HX
        refine last_last (by kernel_rfl) (by kernel_rfl) rfl (by rfl) (fun K hK => ?_)
        go_simp
        go_wp2_with fail
        refine hK.out _ _ ?_
        clear hK K
        go_wp2
        exact ⟨HX.out, by simp only [intOf]; omega⟩
    · obtain rfl : j = l.length := by omega
      obtain ⟨n2, hn2⟩ : ∃ n2, (withJ ss l l.length).length = n2 := ⟨_, rfl⟩
      have HX : Hid (WithF u w base S0 (withJ ss l l.length) (.returned (.slice S2 (withJ ss l l.length).length c2)) wr) := Lib.hid ⟨S2, c2, rfl, HO.out, HG.out, HS.out, HKp.out⟩
      rw [hn2] at HX ⊢
      clear HO HFw HLw hn2
      go_wp2
      go_ret
      exact HX.out
end Go.Proofs.YtpcbnmpfiepaeaaDoor
