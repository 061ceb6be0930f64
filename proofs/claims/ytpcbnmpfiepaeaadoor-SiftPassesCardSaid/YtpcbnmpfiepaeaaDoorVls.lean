/- Rows of values as cells; a new row of values; values copied. No condition. -/
import Derived.Test.YtpcbnmpfiepaeaaDoorTabKit
import Derived.Test.YtpcbnmpfiepaeaaDoorMix
import Derived.Test.YtpcbnmpfiepaeaaDoorApp2
import Derived.Laws.CopyOwn
import Derived.Deep.OwnRows
namespace Go.Proofs.YtpcbnmpfiepaeaaDoor
open Go.RowKit

theorem infoV : (Tryd.prog.info? 46).map (fun i => (i.zero, i.size, i.bytes)) = some (some (.agg #[.int .i64 0, .int .i64 0, .string ⟨#[]⟩]), 3, 32) := by kernel_rfl
def vcL (v : Vl) : List Value := [.int .i64 v.k, .int .i64 v.i, .string v.s]
def flatV (m : List Vl) : List Value := (m.map vcL).flatten
theorem flatV_snoc (m : List Vl) (v : Vl) : flatV m ++ [.int .i64 v.k, .int .i64 v.i, .string v.s] = flatV (m ++ [v]) := by
  unfold flatV
  rw [List.map_append, List.flatten_append]
  rfl
theorem vls_flat (m : List Vl) : ListR VlR 3 m (m.map vcL) := by
  refine ⟨by simp, fun i x cs h1 h2 => ?_⟩
  rw [List.getElem?_map, h1] at h2
  simp only [Option.map_some, Option.some.injEq] at h2
  subst h2
  exact ⟨rfl, rfl⟩
theorem vlsR_flat {w : World} {A : Option Addr} {m : List Vl} (h : Row w A (flatV m)) : VlsR (PRow w) A m := ⟨m.map vcL, vls_flat m, h⟩
theorem own_rowV {w : World} {base n c : Nat} {A : Option Addr} {e : TypeId} {xs : List Value} (h : w.ownsRow base e 3 (.slice A n c) n xs) : Row w A xs := by
  obtain ⟨A', c', he, hr⟩ := own_row h
  injection he with h1 h2 h3
  rw [h1]
  exact hr
/-- The value that says nothing. -/
def nulV : Vl := ⟨0, 0, ⟨#[]⟩⟩
theorem css_flat {m : List Vl} {css : List (List Value)} (h : ListR VlR 3 m css) : css = m.map vcL := by
  apply List.ext_getElem?
  intro i
  rw [List.getElem?_map]
  rcases Nat.lt_or_ge i m.length with hi | hi
  · have hc : i < css.length := by rw [h.1]; exact hi
    have := (h.2 i m[i] css[i] (List.getElem?_eq_getElem hi) (List.getElem?_eq_getElem hc)).1
    rw [List.getElem?_eq_getElem hi, List.getElem?_eq_getElem hc]
    unfold VlR at this
    rw [this]
    rfl
  · rw [List.getElem?_eq_none (by rw [h.1]; exact hi), List.getElem?_eq_none hi]
    rfl
theorem vlsR_row {w : World} {A : Option Addr} {m : List Vl} (h : VlsR (PRow w) A m) : Row w A (flatV m) := by
  obtain ⟨css, h1, h2⟩ := h
  rw [css_flat h1] at h2
  exact h2
theorem vlsR_mrow {u w : World} {A : Option Addr} {m : List Vl} (h : VlsR (MRow u w) A m) (g : Grew u w) : VlsR (PRow w) A m := h.imp fun _ _ _ hx => hx.plain g
theorem flatV_len (m : List Vl) : (flatV m).length = m.length * 3 := by
  induction m with
  | nil => rfl
  | cons v m ih =>
    have e : flatV (v :: m) = vcL v ++ flatV m := by simp [flatV]
    rw [e, List.length_append, ih, List.length_cons]
    show 3 + m.length * 3 = (m.length + 1) * 3
    omega
theorem flatV_one (m : List Vl) : ∀ u ∈ flatV m, u.oneCell' = true := by
  intro u hu
  unfold flatV at hu
  obtain ⟨cs, hc, hu⟩ := List.mem_flatten.1 hu
  obtain ⟨v, _, rfl⟩ := List.mem_map.1 hc
  simp only [vcL, List.mem_cons, List.not_mem_nil, or_false] at hu
  rcases hu with rfl | rfl | rfl <;> rfl
theorem flatV_app (m n : List Vl) : flatV (m ++ n) = flatV m ++ flatV n := by simp [flatV]
theorem flatV_drop (m : List Vl) (j : Nat) : (flatV m).drop (j * 3) = flatV (m.drop j) := by
  rcases Nat.lt_or_ge m.length j with h | h
  · rw [List.drop_of_length_le (by rw [flatV_len]; omega), List.drop_of_length_le (by omega)]
    rfl
  · have e : flatV m = flatV (m.take j) ++ flatV (m.drop j) := by rw [← flatV_app, List.take_append_drop]
    rw [e, List.drop_append, flatV_len, List.length_take, Nat.min_eq_left h, Nat.sub_self, List.drop_zero, List.drop_of_length_le (by rw [flatV_len, List.length_take]; omega), List.nil_append]
/-- The cells of a new row of values. -/
theorem made_flat (n : Nat) : (madeCells #[Value.int .i64 0, .int .i64 0, .string ⟨#[]⟩] (n * 3)).toList = flatV (List.replicate n nulV) := by
  have e : ∀ k, (madeCells #[Value.int .i64 0, .int .i64 0, .string ⟨#[]⟩] k).toList = (List.range k).map (fun i => (#[Value.int .i64 0, .int .i64 0, .string ⟨#[]⟩] : Array Value)[i % 3]!) := fun k => by
    unfold madeCells
    simp
  rw [e]
  induction n with
  | zero => rfl
  | succ n ih =>
    rw [show (n + 1) * 3 = n * 3 + 1 + 1 + 1 by omega, List.range_succ, List.range_succ, List.range_succ, List.map_append, List.map_append, List.map_append, ih, List.replicate_succ', flatV_app, List.append_assoc, List.append_assoc]
    congr 1
    have h0 : n * 3 % 3 = 0 := by omega
    have h1 : (n * 3 + 1) % 3 = 1 := by omega
    have h2 : (n * 3 + 1 + 1) % 3 = 2 := by omega
    simp only [List.map_cons, List.map_nil, h0, h1, h2]
    rfl
theorem made_flat' (n : Nat) : madeCells #[Value.int .i64 0, .int .i64 0, .string ⟨#[]⟩] (n * 3) = (flatV (List.replicate n nulV)).toArray := by
  rw [← made_flat]
theorem val_in {w : World} {g : Nat} {a b c : Value} (h : Blok w g 46 #[a, b, c]) : g < w.heap.size ∧ w.cell? ⟨g, 0, none⟩ = some a ∧ w.cell? ⟨g, 1, none⟩ = some b ∧ w.cell? ⟨g, 2, none⟩ = some c ∧ w.frozen? ⟨g, 0, none⟩ = false ∧ w.frozen? ⟨g, 1, none⟩ = false ∧ w.frozen? ⟨g, 2, none⟩ = false :=
  ⟨h.lt, h.cell 0, h.cell 1, h.cell 2, h.thaw 0, h.thaw 1, h.thaw 2⟩
theorem val_set {w : World} {g : Nat} {a b c : Value} (h : Blok w g 46 #[a, b, c]) (x y z : Value) : Blok (((w.setCell ⟨g, 0, none⟩ x).setCell ⟨g, 1, none⟩ y).setCell ⟨g, 2, none⟩ z) g 46 #[x, y, z] := ((h.set 0 x).set 1 y).set 2 z
theorem grew_set3 {u w : World} (h : Grew u w) {g : Nat} (hg : u.heap.size ≤ g) (x y z : Value) : Grew u (((w.setCell ⟨g, 0, none⟩ x).setCell ⟨g, 1, none⟩ y).setCell ⟨g, 2, none⟩ z) := Grew.setCell (Grew.setCell (Grew.setCell h hg _) hg _) hg _
section
variable {P : Program}
/-- make, whatever the elements' size. -/
theorem wpList_make_rows (w : World) {ops : Array Oper} {rest : List Oper} {o : Oper} {a : Act} {Q : Exit → Act → World → Prop}
    (hg : o.guard = none) (l c : Operand) (t : TypeId) (hop : o.op = Op.makeSlice t l c)
    (e : TypeId) (z : Value) (zs : Array Value) (size bytes : Nat) (ht : P.underlying t = some (.slice e)) (hinfo : (P.info? e).map (fun i => (i.zero, i.size, i.bytes)) = some (some z, size, bytes)) (hzs : z.cells = zs)
    (kl kc : IntKind) (n : Nat) (hl : a.eval l = .int kl (n : Int)) (hc : a.eval c = .int kc (n : Int)) (hbytes : bytes * n ≤ 281474976710656) (h63 : n ≤ 9223372036854775807)
    (hK : wpList P ops Q rest (a.put o.dst (.slice (some ⟨w.heap.size, 0, none⟩) n n)) (w.alloc (.cells (madeCells zs (n * size)) e))) :
    wpList P ops Q (o :: rest) a w := by
  refine wpList_plain hg fun K hK' => ?_
  obtain ⟨i, hi, hzz⟩ := Option.map_eq_some_iff.1 hinfo
  simp only [Prod.mk.injEq] at hzz
  obtain ⟨hz, hs, hb⟩ := hzz
  have hb' : (i.bytes : Int) * (n : Int) ≤ 281474976710656 := by
    have h : ((i.bytes * n : Nat) : Int) ≤ 281474976710656 := by rw [hb]; omega
    rwa [Int.natCast_mul] at h
  have hr := run_make (P := P) w t e i z ht hi hz kl kc n n (by omega) (Int.le_refl _) hb' (by omega)
  simp only [Int.toNat_natCast, hs, hzs] at hr
  unfold Oper.wp
  simp [execOp, hop, hl, hc, hr, Result.andThen]
  exact hK' _ _ hK
/-- copy, whatever the elements' size. -/
theorem run_copy_rows (w : World) (dT sT ty elem : TypeId) (size : Nat) (g o dLen dCap : Nat) (a : Addr) (sLen sCap : Nat) (cur : Array Value) (t : TypeId) (n : Nat) (cs : List Value)
    (hu : P.underlying dT = some (.slice elem)) (hs : (P.info? elem).map (·.size) = some size)
    (hg : w.heap[g]? = some (.cells cur t (0, 0))) (hn : n = Nat.min sLen dLen) (hcs : cs.length = n * size)
    (hsrc : ∀ j v, cs[j]? = some v → w.cell? (a.add j) = some v) (hfit : o + cs.length ≤ cur.size) (h1 : ∀ v ∈ cs, v.oneCell' = true) :
    (Builtin.copy_ #[dT, sT] ty #[.slice (some ⟨g, o, none⟩) dLen dCap, .slice (some a) sLen sCap]).run P w =
      .ok (goInt n) (w.setRow g (cur.toList.take o ++ cs ++ cur.toList.drop (o + cs.length)).toArray) := by
  have hl := run_loadCells_list (P := P) w a cs hsrc
  have hst := run_storeCells_at (P := P) g o t cs 0 cur w hg (by simpa using hfit) h1
  cases hq : P.info? elem with
  | none => simp [hq] at hs
  | some i =>
    have hi : i.size = size := by simpa [hq] using hs
    simp [Builtin.copy_, run_underlying hu, Builtin.lenOf, Builtin.firstCells, sizeOf, typeInfo, hq, hi, ← hn, ← hcs, hl, hst]
theorem run_copy_rows_none (w : World) (dT sT ty elem : TypeId) (size : Nat) (d a : Option Addr) (dLen dCap sLen sCap : Nat) (hu : P.underlying dT = some (.slice elem)) (hs : (P.info? elem).map (·.size) = some size) (hn : Nat.min sLen dLen = 0) :
    (Builtin.copy_ #[dT, sT] ty #[.slice d dLen dCap, .slice a sLen sCap]).run P w = .ok (goInt 0) w := by
  cases hq : P.info? elem with
  | none => simp [hq] at hs
  | some i =>
    have hl : ∀ (x : Addr), (loadCells x 0).run P w = .ok #[] w := fun x => by simpa using run_loadCells_list (P := P) w x [] (by simp)
    cases d <;> cases a <;> simp [Builtin.copy_, run_underlying hu, Builtin.lenOf, Builtin.firstCells, sizeOf, typeInfo, hq, hn, storeCells, hl]
/-- The same into a row that is known whole. -/
theorem run_copy_into {w : World} {T elem ty t : TypeId} {size : Nat} (hu : P.underlying T = some (.slice elem)) (hs : (P.info? elem).map (·.size) = some size) {g o dLen dCap sLen sCap : Nat} {dp sp : Option Addr} {cur xs : List Value}
    (hg : w.heap[g]? = some (.cells cur.toArray t (0, 0))) (hx : xs.length = sLen * size) (hle : sLen ≤ dLen) (hd : 0 < sLen → dp = some ⟨g, o, none⟩) (hr : Row w sp xs) (hfit : o + sLen * size ≤ cur.length) (h1 : ∀ u ∈ xs, u.oneCell' = true) (hz : 0 < size)
    {B : Nat} {w0 : World} (hb : Below B w0 w) (hBg : B ≤ g) :
    ∃ w', (Builtin.copy_ #[T, T] ty #[.slice dp dLen dCap, .slice sp sLen sCap]).run P w = .ok (.int .i64 sLen) w' ∧ w'.heap[g]? = some (.cells (splice cur o xs).toArray t (0, 0)) ∧ Below B w0 w' := by
  have hmin : Nat.min sLen dLen = sLen := Nat.min_eq_left hle
  by_cases h0 : sLen = 0
  · refine ⟨w, ?_, ?_, hb⟩
    · have := run_copy_rows_none (P := P) w T T ty elem size dp sp dLen dCap sLen sCap hu hs (by rw [hmin]; exact h0)
      rw [this, h0]; rfl
    · have hxs : xs = [] := List.eq_nil_of_length_eq_zero (by rw [hx, h0, Nat.zero_mul])
      rw [hg, hxs]
      unfold splice
      simp
  · obtain rfl := hd (by omega)
    have hpos : 0 < sLen * size := Nat.mul_pos (by omega) hz
    rcases hr with hr | ⟨b', o', rfl, hlt, hc⟩
    · rw [hr] at hx; simp at hx; omega
    · have := run_copy_rows (P := P) w T T ty elem size g o dLen dCap ⟨b', o', none⟩ sLen sCap cur.toArray t sLen xs hu hs hg hmin.symm hx (fun j v hv => by rw [add_plain]; exact hc j v hv) (by simpa [hx] using hfit) h1
      exact ⟨_, this, by rw [setRow_heap w g _ _ t (0, 0) hg]; unfold splice; simp, below_setRow hb hBg _⟩
/-- append behind a guard that lets it by. -/
theorem wpList_appW {w : World} {ops : Array Oper} {rest : List Oper} {o : Oper} {a : Act} {Q : Exit → Act → World → Prop} (hgd : Region.wanted o (yielded ops a.tmps) = true) (s x : Operand) (t e : TypeId) (size : Nat)
    (ho : o.op = .call { callee := .builtin .append, args := #[s, x], argTypes := #[t, t] })
    (u : World) (z : Value) (bytes : Nat) (ht : P.underlying t = some (.slice e)) (hi : (P.info? e).map (fun i => (i.zero, i.size, i.bytes)) = some (some z, size, bytes)) (hzs : z.cells.size = size) (hsz : 0 < size) (hb8 : bytes ≤ 256)
    (v : Value) (n : Nat) (xs : List Value) (hs : a.eval s = v) (hown : w.ownsRow u.heap.size e size v n xs)
    (A : Option Addr) (m c : Nat) (news : List Value) (hx : a.eval x = .slice A m c) (hl : news.length = m * size) (hr : Row w A news) (h1 : ∀ u ∈ news, u.oneCell' = true)
    (hsm : n + m ≤ 549755813888) (hg : Grew u w)
    (h : ∀ A' c' w', w'.ownsRow u.heap.size e size (.slice A' (n + m) c') (n + m) (xs ++ news) → Grew u w' → w.grownBy w' v.ownBlock → wpList P ops Q rest (a.put o.dst (.slice A' (n + m) c')) w') : wpList P ops Q (o :: rest) a w := by
  unfold wpList
  rw [if_pos hgd]
  exact .inl (wp_appB s x t e size ho u.heap.size z bytes ht hi hzs hsz hb8 v n xs hs hown A m c news hx hl hr h1 hsm hg.size fun A' c' w' h1 h2 => h A' c' w' h1 (hg.grown h2 (own_base hown)) h2)
end
end Go.Proofs.YtpcbnmpfiepaeaaDoor
