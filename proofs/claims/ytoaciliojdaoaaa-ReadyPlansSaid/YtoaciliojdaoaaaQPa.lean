/- Layer 31: all filters that there may be, by the program. Condition: conditions that lie in memory that is there, no more than a thousand tables. -/
import Derived.Test.YtoaciliojdaoaaaQNb
import Derived.Test.YtoaciliojdaoaaaQNm
import Derived.Test.YtoaciliojdaoaaaUfN
import Derived.Test.YtoaciliojdaoaaaUfAll2
import Derived.Test.YtoaciliojdaoaaaApp2

/- Layer 31: which tables may filter which, by the document: plain mathematics. No condition. (Tried by plain lean over stand-ins of Ed, Ex and La; not yet built in a seat.) -/
namespace Go.Proofs.Ytoaciliojdaoaaa

/-- Where a value first lies in a list; -1: nowhere. -/
def ixI : List Int → Int → Int
  | [], _ => -1
  | a :: l, x => if a = x then 0 else if ixI l x < 0 then -1 else ixI l x + 1
theorem ixI_none {l : List Int} {x : Int} (h : ∀ (j : Nat) (hj : j < l.length), l[j] ≠ x) : ixI l x = -1 := by
  induction l with
  | nil => rfl
  | cons a l ih =>
    have h0 : a ≠ x := h 0 (by simp)
    have h1 := ih fun j hj => h (j + 1) (by simpa using hj)
    rw [ixI, if_neg h0, h1]
    rfl
theorem ixI_at {l : List Int} {x : Int} {i : Nat} (hi : i < l.length) (hx : l[i] = x) (h : ∀ (j : Nat) (hj : j < l.length), j < i → l[j] ≠ x) : ixI l x = i := by
  induction l generalizing i with
  | nil => simp at hi
  | cons a l ih =>
    cases i with
    | zero => simp at hx; rw [ixI, if_pos hx]; rfl
    | succ i =>
      have h0 : a ≠ x := h 0 (by simp) (by omega)
      have h1 := ih (i := i) (by simpa using hi) (by simpa using hx) fun j hj hji => h (j + 1) (by simpa using hj) (by omega)
      rw [ixI, if_neg h0, h1, if_neg (by omega)]
      omega
theorem ixI_mem {l : List Int} {x : Int} (h : x ∈ l) : 0 ≤ ixI l x := by
  induction l with
  | nil => cases h
  | cons a l ih =>
    rw [ixI]
    by_cases e : a = x
    · rw [if_pos e]; omega
    · rw [if_neg e]
      have := ih (by rcases List.mem_cons.1 h with h | h; exact absurd h.symm e; exact h)
      rw [if_neg (by omega)]
      omega
theorem ixI_ge (l : List Int) (x : Int) : -1 ≤ ixI l x := by
  induction l with
  | nil => show (-1 : Int) ≤ -1; omega
  | cons a l ih =>
    rw [ixI]
    split
    · omega
    · split <;> omega
theorem ixI_lt (l : List Int) (x : Int) : ixI l x < l.length := by
  induction l with
  | nil => show (-1 : Int) < 0; omega
  | cons a l ih =>
    rw [ixI, List.length_cons]
    split
    · omega
    · split <;> omega
/-- What has more of it may filter what has less: core is how many tables lie in the core, js how the late ones are joined. -/
def rankI (core : Nat) (js : List Int) (order : List Int) (t : Int) : Int :=
  if 0 ≤ t ∧ t < core then (if ixI order t < 0 then -1 else 1 + ixI order t)
  else if t < core ∨ (js.length : Int) ≤ t - core then -1
  else if js.getD (t - core).toNat 0 = 2 ∨ js.getD (t - core).toNat 0 = 4 then 0 else 1 + t
theorem rank_core {core : Nat} {js order : List Int} {t : Int} (h : 0 ≤ t ∧ t < core) (hm : t ∈ order) : 1 ≤ rankI core js order t := by
  have := ixI_mem hm
  rw [rankI, if_pos h, if_neg (by omega)]
  omega
theorem rank_late {core : Nat} {js order : List Int} {t : Int} (h : (core : Int) ≤ t) (h2 : t < core + js.length) : 0 ≤ rankI core js order t := by
  rw [rankI, if_neg (by omega), if_neg (by omega)]
  split <;> omega
theorem rank_low {core : Nat} {js order : List Int} {t : Int} (h : (core : Int) ≤ t) (hj : js.getD (t - core).toNat 0 = 2 ∨ js.getD (t - core).toNat 0 = 4) : rankI core js order t ≤ 0 := by
  rw [rankI, if_neg (by omega)]
  split
  · omega
  · omega
/-- A table's least column of a class; cl tells a column's class. -/
def colF (cl : Int → Int → Int) (t k : Int) : Int := if k < 0 then -1 else match (List.range 16).find? (fun (c : Nat) => cl t c == k) with | none => -1 | some c => (c : Int)
theorem colF_some {cl : Int → Int → Int} {t k : Int} {c : Nat} (hk : ¬ k < 0) (hc : c < 16) (he : cl t c = k) (h : ∀ d : Nat, d < c → cl t d ≠ k) : colF cl t k = c := by
  have : (List.range 16).find? (fun (c : Nat) => cl t c == k) = some c := by
    rw [List.find?_range_eq_some]
    exact ⟨by simpa using he, List.mem_range.2 hc, fun j hj => by simpa using h j hj⟩
  rw [colF, if_neg hk, this]
theorem colF_none {cl : Int → Int → Int} {t k : Int} (h : ∀ d : Nat, d < 16 → cl t d ≠ k) : colF cl t k = -1 := by
  have : (List.range 16).find? (fun (c : Nat) => cl t c == k) = none := by
    rw [List.find?_range_eq_none]
    exact fun j hj => by simpa using h j hj
  rw [colF, this]
  split <;> rfl
/-- A late table's keys, and the columns of one of the core that they ask: pairs. -/
def keyP (cl : Int → Int → Int) (core : Nat) (keys : List Ed) (t : Int) : List (Int × Int) :=
  keys.filterMap fun (k : Ed) => if ((0 : Int) ≤ k.a ∧ k.a < (core : Int)) ∧ 0 ≤ colF cl t (cl k.a k.ac) then some (k.bc, colF cl t (cl k.a k.ac)) else none
theorem keyP_skip {cl : Int → Int → Int} {core : Nat} {l : List Ed} {t : Int} {i : Nat} (hi : i < l.length) (h : ¬ ((0 ≤ l[i].a ∧ l[i].a < core) ∧ 0 ≤ colF cl t (cl l[i].a l[i].ac))) : keyP cl core (l.take (i + 1)) t = keyP cl core (l.take i) t := by
  unfold keyP
  rw [List.take_succ_eq_append_getElem hi, List.filterMap_append]
  simp [h]
theorem keyP_put {cl : Int → Int → Int} {core : Nat} {l : List Ed} {t : Int} {i : Nat} (hi : i < l.length) (h : (0 ≤ l[i].a ∧ l[i].a < core) ∧ 0 ≤ colF cl t (cl l[i].a l[i].ac)) : keyP cl core (l.take (i + 1)) t = keyP cl core (l.take i) t ++ [(l[i].bc, colF cl t (cl l[i].a l[i].ac))] := by
  unfold keyP
  rw [List.take_succ_eq_append_getElem hi, List.filterMap_append]
  simp [h]
/-- Two tables of the core: the columns of both, class by class. -/
def coreP (cl : Int → Int → Int) (m : Nat) (f t : Int) : List (Int × Int) :=
  (List.range m).filterMap fun (k : Nat) => if 0 ≤ colF cl f k ∧ 0 ≤ colF cl t k then some (colF cl f k, colF cl t k) else none
theorem coreP_skip {cl : Int → Int → Int} {m : Nat} {f t : Int} (h : ¬ (0 ≤ colF cl f m ∧ 0 ≤ colF cl t m)) : coreP cl (m + 1) f t = coreP cl m f t := by
  unfold coreP
  rw [List.range_succ, List.filterMap_append]
  simp [h]
theorem coreP_put {cl : Int → Int → Int} {m : Nat} {f t : Int} (h : 0 ≤ colF cl f m ∧ 0 ≤ colF cl t m) : coreP cl (m + 1) f t = coreP cl m f t ++ [(colF cl f m, colF cl t m)] := by
  unfold coreP
  rw [List.range_succ, List.filterMap_append]
  simp [h]
/-- The columns of both that must be the same. -/
def betP (cl : Int → Int → Int) (core : Nat) (late : List La) (f t : Int) : List (Int × Int) :=
  if ((core : Int) ≤ f ∧ f < core + late.length) ∧ (0 ≤ t ∧ t < core) then keyP cl core (late.getD (f - core).toNat default).keys t
  else if ((core : Int) ≤ t ∧ t < core + late.length) ∧ (0 ≤ f ∧ f < core) then (keyP cl core (late.getD (t - core).toNat default).keys f).map fun p => (p.2, p.1)
  else if (0 ≤ f ∧ f < core) ∧ (0 ≤ t ∧ t < core) ∧ f ≠ t then coreP cl 128 f t
  else []
/-- A filter: from, to, and the columns of both. -/
structure Fl where
  f : Int
  t : Int
  cols : List (Int × Int)
def jsI (late : List La) : List Int := late.map La.join
/-- May a table filter another? -/
def flB (cl : Int → Int → Int) (core : Nat) (late : List La) (order : List Int) (f t : Int) : Option Fl :=
  if (rankI core (jsI late) order t < 0 ∨ order.head? = some f ∨ rankI core (jsI late) order f ≤ rankI core (jsI late) order t) ∨ betP cl core late f t = [] then none else some ⟨f, t, betP cl core late f t⟩
def flsT (cl : Int → Int → Int) (core : Nat) (late : List La) (order : List Int) (t : Int) (m : Nat) : List Fl := (List.range m).filterMap fun (f : Nat) => flB cl core late order f t
def flsI (cl : Int → Int → Int) (core : Nat) (late : List La) (order : List Int) (m : Nat) : List Fl := (List.range m).flatMap fun (t : Nat) => flsT cl core late order t (core + late.length)
def allI (cl : Int → Int → Int) (core : Nat) (late : List La) (order : List Int) : List Fl := flsI cl core late order (core + late.length)
theorem flsT_step (cl : Int → Int → Int) (core : Nat) (late : List La) (order : List Int) (t : Int) (m : Nat) : flsT cl core late order t (m + 1) = flsT cl core late order t m ++ (flB cl core late order m t).toList := by
  unfold flsT
  rw [List.range_succ, List.filterMap_append]
  cases h : flB cl core late order m t <;> simp [h]
theorem flsI_step (cl : Int → Int → Int) (core : Nat) (late : List La) (order : List Int) (m : Nat) : flsI cl core late order (m + 1) = flsI cl core late order m ++ flsT cl core late order m (core + late.length) := by
  unfold flsI
  rw [List.range_succ, List.flatMap_append]
  simp
/-- What holds of each filter that there may be. -/
theorem allI_mem {cl : Int → Int → Int} {core : Nat} {late : List La} {order : List Int} {x : Fl} (h : x ∈ allI cl core late order) :
    ∃ f t : Nat, x.f = f ∧ x.t = t ∧ f < core + late.length ∧ t < core + late.length ∧ 0 ≤ rankI core (jsI late) order x.t ∧ rankI core (jsI late) order x.t < rankI core (jsI late) order x.f ∧ order.head? ≠ some x.f ∧ x.cols = betP cl core late x.f x.t ∧ x.cols ≠ [] := by
  unfold allI flsI at h
  obtain ⟨t, ht, h⟩ := List.mem_flatMap.1 h
  unfold flsT at h
  obtain ⟨f, hf, h⟩ := List.mem_filterMap.1 h
  unfold flB at h
  by_cases c : (rankI core (jsI late) order t < 0 ∨ order.head? = some (f : Int) ∨ rankI core (jsI late) order f ≤ rankI core (jsI late) order t) ∨ betP cl core late f t = []
  · rw [if_pos c] at h; cases h
  · rw [if_neg c] at h
    injection h with h
    subst h
    have c1 : ¬ betP cl core late f t = [] := fun e => c (Or.inr e)
    have c2 : ¬ order.head? = some (f : Int) := fun e => c (Or.inl (Or.inr (Or.inl e)))
    have c3 : ¬ rankI core (jsI late) order t < 0 := fun e => c (Or.inl (Or.inl e))
    have c4 : ¬ rankI core (jsI late) order f ≤ rankI core (jsI late) order t := fun e => c (Or.inl (Or.inr (Or.inr e)))
    exact ⟨f, t, rfl, rfl, List.mem_range.1 hf, List.mem_range.1 ht, Int.not_lt.1 c3, Int.not_le.1 c4, c2, rfl, c1⟩
/-- None comes from a table that is joined by left or anti. -/
theorem allI_join {cl : Int → Int → Int} {core : Nat} {late : List La} {order : List Int} {x : Fl} (h : x ∈ allI cl core late order) (hc : (core : Int) ≤ x.f) : (jsI late).getD (x.f - core).toNat 0 ≠ 2 ∧ (jsI late).getD (x.f - core).toNat 0 ≠ 4 := by
  obtain ⟨f, t, _, _, _, _, h1, h2, _⟩ := allI_mem h
  refine ⟨fun e => ?_, fun e => ?_⟩
  · have := rank_low (js := jsI late) (order := order) hc (Or.inl e); omega
  · have := rank_low (js := jsI late) (order := order) hc (Or.inr e); omega
/-- The rank by which a plan's pipes rise: the driver is behind all. -/
def risR (core : Nat) (js order : List Int) (t : Nat) : Int := if order.head? = some (t : Int) then -1 else rankI core js order t
theorem ris_ge {core : Nat} {js order : List Int} {t : Nat} (ho : ∀ z : Nat, z < core → (z : Int) ∈ order) (ht : t < core + js.length) (hd : order.head? ≠ some (t : Int)) : 0 ≤ risR core js order t := by
  rw [risR, if_neg hd]
  by_cases h : t < core
  · have := rank_core (core := core) (js := js) (order := order) (t := (t : Int)) ⟨by omega, by omega⟩ (ho t h)
    omega
  · exact rank_late (by omega) (by omega)
theorem ris_up {cl : Int → Int → Int} {core : Nat} {late : List La} {order : List Int} {x : Fl} {f t : Nat} (h : x ∈ allI cl core late order) (hf : x.f = f) (ht : x.t = t) : risR core (jsI late) order t < risR core (jsI late) order f := by
  obtain ⟨_, _, _, _, _, _, h1, h2, h3, _⟩ := allI_mem h
  rw [hf] at h2 h3
  rw [ht] at h1 h2
  rw [risR, risR, if_neg h3]
  split <;> omega
end Go.Proofs.Ytoaciliojdaoaaa

/- Layer 31: filters, as they lie in memory. No condition. -/
namespace Go.Proofs.Ytoaciliojdaoaaa
open Go.RowKit

/-- A filter: from, to, and the columns of both. -/
structure Fv where
  f : Int
  t : Int
  a : List Int
  b : List Int
instance fv_some : Inhabited Fv := ⟨⟨0, 0, [], []⟩⟩
def lcP (l : List (Int × Int)) : List Int := l.map Prod.fst
def rcP (l : List (Int × Int)) : List Int := l.map Prod.snd
def fvF (x : Fl) : Fv := ⟨x.f, x.t, lcP x.cols, rcP x.cols⟩
theorem lcP_len (l : List (Int × Int)) : (lcP l).length = l.length := by simp [lcP]
theorem rcP_len (l : List (Int × Int)) : (rcP l).length = l.length := by simp [rcP]
def FvR (R : Rw) (x : Fv) (cs : List Value) : Prop := ∃ A k B j, cs = [.int .i64 x.f, .slice A x.a.length k, .int .i64 x.t, .slice B x.b.length j] ∧ R 3 A (iV x.a) ∧ R 3 B (iV x.b)
def FvsR (R : Rw) (A : Option Addr) (l : List Fv) : Prop := ∃ css, ListR (FvR R) 4 l css ∧ R 43 A css.flatten
theorem FvR.impI {R R' : Rw} (H : ∀ A xs, R 3 A xs → R' 3 A xs) {x : Fv} {cs : List Value} (h : FvR R x cs) : FvR R' x cs := by
  obtain ⟨A, k, B, j, e, h1, h2⟩ := h
  exact ⟨A, k, B, j, e, H _ _ h1, H _ _ h2⟩
theorem FvsR.grew {w w' : World} {A : Option Addr} {l : List Fv} (h : FvsR (PRow w) A l) (g : Grew w w') : FvsR (PRow w') A l := by
  obtain ⟨css, h1, h2⟩ := h
  exact ⟨css, h1.map fun x cs hx => hx.impI fun _ _ hr => Row.grew hr g, Row.grew h2 g⟩
theorem fvsR_at {w : World} {A : Option Addr} {l : List Fv} (h : FvsR (PRow w) A l) {i : Nat} (hi : i < l.length) :
    ∃ b o B k C j, A = some ⟨b, o, none⟩ ∧ b < w.heap.size ∧ w.cell? ⟨b, o + i * 4, none⟩ = some (.int .i64 l[i].f) ∧ w.cell? ⟨b, o + i * 4 + 1, none⟩ = some (.slice B l[i].a.length k) ∧ w.cell? ⟨b, o + i * 4 + 2, none⟩ = some (.int .i64 l[i].t) ∧ w.cell? ⟨b, o + i * 4 + 3, none⟩ = some (.slice C l[i].b.length j) ∧ Row w B (iV l[i].a) ∧ Row w C (iV l[i].b) := by
  obtain ⟨css, h1, h2⟩ := h
  obtain ⟨b, o, cs, hA, hb, hr, _, hc⟩ := h1.at_ h2 (by decide) hi
  obtain ⟨B, k, C, j, rfl, q1, q2⟩ := hr
  exact ⟨b, o, B, k, C, j, hA, hb, hc 0 _ rfl, hc 1 _ rfl, hc 2 _ rfl, hc 3 _ rfl, q1, q2⟩
/-- Filters that are gathered: in a row of one's own, their columns in rows behind the first world. -/
structure GatF (u : World) (L : List Fv) (A : Option Addr) (c : Nat) (css : List (List Value)) (wr : World) : Prop where
  grew : Grew u wr
  own : wr.ownsRow u.heap.size 43 4 (.slice A L.length c) L.length css.flatten
  rows : ListR (FvR (MRow u wr)) 4 L css
theorem neIF : 3 ≠ 43 := by decide
theorem GatF.nil (u : World) : GatF u [] none 0 [] u := ⟨Grew.refl u, own_none _ _ _ _, ListR.nil⟩
theorem GatF.on {u wr w' : World} {L : List Fv} {A : Option Addr} {c : Nat} {css : List (List Value)} (h : GatF u L A c css wr) (g : Grew wr w') : GatF u L A c css w' :=
  ⟨h.grew.trans g, own_grewE h.own g, h.rows.map fun _ _ hx => hx.impI fun _ _ hm => hm.grew g⟩
theorem GatF.done {u wr : World} {L : List Fv} {A : Option Addr} {c : Nat} {css : List (List Value)} (h : GatF u L A c css wr) : FvsR (PRow wr) A L := by
  obtain ⟨A', c', e, hr⟩ := own_row h.own
  injection e with e _ _
  subst e
  exact ⟨css, h.rows.map fun x cs hx => hx.impI fun B xs hm => hm.plain h.grew, hr⟩
theorem GatF.snoc {u wr w' : World} {L : List Fv} {A A' : Option Addr} {c c' : Nat} {css : List (List Value)} {x : Fv} {cs : List Value} (h : GatF u L A c css wr) (hx : FvR (MRow u wr) x cs)
    (ho : w'.ownsRow u.heap.size 43 4 (.slice A' (L.length + 1) c') (L.length + 1) (css.flatten ++ cs)) (hb : wr.grownBy w' (Value.slice A L.length c).ownBlock) : GatF u (L ++ [x]) A' c' (css ++ [cs]) w' := by
  have H : ∀ B xs, MRow u wr 3 B xs → MRow u w' 3 B xs := fun B xs hm => hm.grown h.own neIF hb
  have hlen : cs.length = 4 := by obtain ⟨_, _, _, _, rfl, _⟩ := hx; rfl
  refine ⟨h.grew.grown hb fun k hk => own_base h.own k hk, ?_, (h.rows.map fun y ds hy => hy.impI H).snoc (hx.impI H) hlen⟩
  rw [List.length_append, List.length_singleton, List.flatten_append]
  simpa using ho
/-- Filters that come back. -/
def FlsF (w : World) (L : List Fv) (e : Ending) (w' : World) : Prop := ∃ A k, e = .returned (.slice A L.length k) ∧ Grew w w' ∧ FvsR (PRow w') A L
theorem infoFl : (Try.prog.info? 43).map (fun i => (i.zero, i.size, i.bytes)) = some (some (.agg #[.int .i64 0, .slice none 0 0, .int .i64 0, .slice none 0 0]), 4, 64) := by kernel_rfl
/-- The columns of both that come back, in rows behind the first world. -/
def BetR (u w' : World) (l : List (Int × Int)) (va vb : Value) : Prop := ∃ A k B j, va = .slice A (lcP l).length k ∧ vb = .slice B (rcP l).length j ∧ TRow u.heap.size w' 3 A (iV (lcP l)) ∧ TRow u.heap.size w' 3 B (iV (rcP l))
theorem BetR.on {u w w' : World} {l : List (Int × Int)} {va vb : Value} (h : BetR u w l va vb) (g : Grew w w') : BetR u w' l va vb := by
  obtain ⟨A, k, B, j, e1, e2, h1, h2⟩ := h
  exact ⟨A, k, B, j, e1, e2, h1.grew g, h2.grew g⟩
theorem BetR.nil (u w : World) : BetR u w [] (.slice none 0 0) (.slice none 0 0) := ⟨none, 0, none, 0, rfl, rfl, Or.inl rfl, Or.inl rfl⟩
theorem BetR.fv {u v w : World} {x : Fl} {va vb : Value} (h : BetR v w x.cols va vb) (hu : u.heap.size ≤ v.heap.size) : FvR (MRow u w) (fvF x) [.int .i64 x.f, va, .int .i64 x.t, vb] := by
  obtain ⟨A, k, B, j, rfl, rfl, h1, h2⟩ := h
  exact ⟨A, k, B, j, rfl, Or.inr (h1.low hu), Or.inr (h2.low hu)⟩
/-- A column's class; -1: it has none. -/
def clI (R : Nat → Nat) (t c : Int) : Int := findI 128 R (columnI t c)
theorem clI_ge (R : Nat → Nat) (t c : Int) : -1 ≤ clI R t c := findI_lo _ _ _
theorem clI_lt {R : Nat → Nat} (h : Least 128 R) (t c : Int) : clI R t c < 128 := by
  unfold clI findI
  split
  · rename_i hh
    have := h.le (columnI t c).toNat (by omega)
    omega
  · omega
end Go.Proofs.Ytoaciliojdaoaaa

/- Layer 16: the classes of columns that are the same, by the program. Condition: edges that lie in memory that is there, no more than a thousand. -/
namespace Go.Proofs.Ytoaciliojdaoaaa
open Go.RowKit
attribute [local go_sem] more_cell more_frozen more_more more_setCell more_of_drew more_of_drewN lt_more le_more past_cell past_cell2 past_frozen past_frozen2 past_setCell past_setCell2 mid_cell mid_frozen mid_setCell
attribute [local go_sem ↓] Go.wp_at_zero Go.wp_at_succ

/-- The cells of all conditions, by their lists. -/
def nqC (core : Int) (A : Option Addr) (n k : Nat) (B : Option Addr) (m j : Nat) (C : Option Addr) (p c : Nat) (D : Option Addr) (dn d : Nat) (E : Option Addr) (q e : Nat) : Array Value :=
  #[.int .i64 core, .slice A n k, .slice B m j, .slice C p c, .slice D dn d, .slice E q e]
theorem Blok.keepB {w w' : World} {g h b : Nat} {t : TypeId} {cs : Array Value} (hb : Blok w b t cs) (k : Keep2 w w' g h) (h1 : b ≠ g) (h2 : b ≠ h) : Blok w' b t cs := by
  have hl := hb.lt
  unfold Blok at *
  rw [k.block b hl h1 h2]
  exact hb
theorem UfS.up {u u' w : World} {g h n : Nat} {r : Nat → Nat} (s : UfS u' g h n r w) (k : Grew u u') : UfS u g h n r w :=
  ⟨k.trans s.grew, Nat.le_trans k.size s.gu, Nat.le_trans k.size s.hu, s.least, s.lies⟩
/-- Each column's class behind the edges. -/
def clsE (l : List Ed) : Nat → Nat := l.foldl (fun r e => joinI 128 r (columnI e.a e.ac) (columnI e.b e.bc)) id
theorem clsE_take (l : List Ed) (k : Nat) (h : k < l.length) : clsE (l.take (k + 1)) = joinI 128 (clsE (l.take k)) (columnI l[k].a l[k].ac) (columnI l[k].b l[k].bc) := by
  rw [List.take_succ_eq_append_getElem h]
  unfold clsE
  rw [List.foldl_append]
  rfl
def ClsAt (u : World) (g h : Nat) (l : List Ed) (i : Value) (wr : World) : Prop := ∃ q : Nat, q ≤ l.length ∧ i = .int .i64 q ∧ UfS u g h 128 (clsE (l.take q)) wr
def ClsF (w : World) (l : List Ed) (e : Ending) (w' : World) : Prop := ∃ g h, e = .returned (.pointer (some ⟨g, 0, none⟩)) ∧ UfS w g h 128 (clsE l) w'
set_option maxHeartbeats 4000000 in
set_option maxRecDepth 100000 in
theorem classes_any (core : Int) (l : List Ed) (A : Option Addr) (n k : Nat) (B : Option Addr) (j : Nat) (C : Option Addr) (p c : Nat) (D : Option Addr) (dn d : Nat) (E : Option Addr) (q e : Nat) (w : World)
    (h2 : EdsR (PRow w) B l) (he : l.length ≤ 3000) :
    Calls Try.prog 54 #[.agg (nqC core A n k B l.length j C p c D dn d E q e)] w (ClsF w l) := by
  have H2 := Lib.hid h2
  have HNew : Hid (∀ W, Calls Try.prog 73 #[.int .i64 128] W fun e w' => ∃ g h, e = .returned (.pointer (some ⟨g, 0, none⟩)) ∧ UfS W g h 128 id w' ∧ Grew W w') := Lib.hid fun W => uf_newB 128 (by omega) W
  clear h2
  unfold nqC
  go_enter Try.func54, Try.ntmps54
  go_upto_region 1 with fail
  have HB : Hid (Blok (w.alloc (.cells #[.int .i64 core, .slice A n k, .slice B l.length j, .slice C p c, .slice D dn d, .slice E q e] 37)) w.heap.size 37 #[.int .i64 core, .slice A n k, .slice B l.length j, .slice C p c, .slice D dn d, .slice E q e]) := Lib.hid (Blok.new _ _ _ _ rfl)
  have HG0 : Hid (Grew w (w.alloc (.cells #[.int .i64 core, .slice A n k, .slice B l.length j, .slice C p c, .slice D dn d, .slice E q e] 37))) := Lib.hid ((Grew.refl w).alloc _)
  generalize (w.alloc (.cells #[.int .i64 core, .slice A n k, .slice B l.length j, .slice C p c, .slice D dn d, .slice E q e] 37)) = W1 at *
  generalize w.heap.size = bq at *
  go_upto_region 2 with (go_at_call 73; (with_reducible refine (HNew.out _).mono ?_); rintro e2 w2 ⟨g, h, rfl, hs2, hg2⟩)
  have HS2 := Lib.hid hs2
  obtain ⟨xl, x0, x1, x2, x3, x4, x5⟩ := nm_in (HB.out.grew hg2)
  clear hs2 hg2 HNew
  go_upto_region 3 with fail
  clear xl x0 x1 x2 x3 x4 x5
  go_loopw [10] (fun i wr => ClsAt W1 g h l i wr) (fun i _ => l.length - (intOf i).toNat)
  case atStart => exact ⟨0, Nat.zero_le _, rfl, by rw [List.take_zero]; exact HS2.out⟩
  case round =>
    obtain ⟨i, hi, rfl, hs⟩ := hrel
    have HS := Lib.hid hs
    have hg := hs.grew
    have hgl := hs.lt
    clear hs
    by_cases hlt : i < l.length
    · have HT := Lib.hid (clsE_take l i hlt)
      obtain ⟨b, o, rfl, hb0, a0, a1, a2, a3⟩ := edsR_at ((H2.out.grew HG0.out).grew hg) hlt
      clear hg
      generalize l[i] = y at *
      generalize clsE (l.take i) = r at *
      go_upto_region 5 with fail
      have HBe : Hid (Blok (wr.alloc (.cells #[.int .i64 y.a, .int .i64 y.ac, .int .i64 y.b, .int .i64 y.bc] 68)) wr.heap.size 68 #[.int .i64 y.a, .int .i64 y.ac, .int .i64 y.b, .int .i64 y.bc]) := Lib.hid (Blok.new _ _ _ _ rfl)
      have HS4 : Hid (UfS W1 g h 128 r (wr.alloc (.cells #[.int .i64 y.a, .int .i64 y.ac, .int .i64 y.b, .int .i64 y.bc] 68))) := Lib.hid (HS.out.on ((Grew.refl wr).alloc _))
      clear hb0 a0 a1 a2 a3 HS
      generalize (wr.alloc (.cells #[.int .i64 y.a, .int .i64 y.ac, .int .i64 y.b, .int .i64 y.bc] 68)) = W4 at *
      generalize wr.heap.size = be at *
      have HC1 : Hid (∀ W, Gives Try.prog 75 #[.int .i64 y.a, .int .i64 y.ac] W (.int .i64 (columnI y.a y.ac))) := Lib.hid fun W => column_any _ _ W
      have HC2 : Hid (∀ W, Gives Try.prog 75 #[.int .i64 y.b, .int .i64 y.bc] W (.int .i64 (columnI y.b y.bc))) := Lib.hid fun W => column_any _ _ W
      have HJ : Hid (∀ W, UfS W1 g h 128 r W → Calls Try.prog 74 #[.pointer (some ⟨g, 0, none⟩), .int .i64 (columnI y.a y.ac), .int .i64 (columnI y.b y.bc)] W fun e w' => e = .returned (.bool (joinsB 128 r (columnI y.a y.ac) (columnI y.b y.bc))) ∧ UfS W1 g h 128 (joinI 128 r (columnI y.a y.ac) (columnI y.b y.bc)) w' ∧ Keep2 W w' g h) := Lib.hid fun W hW => uf_join _ _ _ W g h 128 r _ hW _ rfl rfl
      generalize joinsB 128 r (columnI y.a y.ac) (columnI y.b y.bc) = t at *
      generalize joinI 128 r (columnI y.a y.ac) (columnI y.b y.bc) = r' at *
      generalize columnI y.a y.ac = x1 at *
      generalize columnI y.b y.bc = x2 at *
      have hS0 := HBe.out.grew (Grew.refl W4).drew
      have hU0 := HS4.out.on (Grew.refl W4).drew
      refine wp_region_S (fun W => Blok W be 68 #[.int .i64 y.a, .int .i64 y.ac, .int .i64 y.b, .int .i64 y.bc]) (by kernel_rfl) ?_
      refine held_take 0 (v := ?_) rfl (by kernel_rfl) (by kernel_rfl) (by kernel_rfl) (fun _ _ _ h => h) (by rfl) ?_ hS0 ?_
      rotate_left
      · (intro W hW; obtain ⟨r0, d0, d1, d2, d3, _, _, _, _⟩ := ed_in hW; go_simp; with_reducible rfl)
      refine held_take 1 (v := ?_) rfl (by kernel_rfl) (by kernel_rfl) (by kernel_rfl) (fun _ _ _ h => h) (by rfl) ?_ hS0 ?_
      rotate_left
      · (intro W hW; obtain ⟨r0, d0, d1, d2, d3, _, _, _, _⟩ := ed_in hW; go_simp; with_reducible rfl)
      refine held_take 2 (v := ?_) rfl (by kernel_rfl) (by kernel_rfl) (by kernel_rfl) (fun _ _ _ h => h) (by rfl) ?_ hS0 ?_
      rotate_left
      · (intro W hW; obtain ⟨r0, d0, d1, d2, d3, _, _, _, _⟩ := ed_in hW; go_simp; with_reducible rfl)
      refine held_take 3 (v := ?_) rfl (by kernel_rfl) (by kernel_rfl) (by kernel_rfl) (fun _ _ _ h => h) (by rfl) ?_ hS0 ?_
      rotate_left
      · (intro W hW; obtain ⟨r0, d0, d1, d2, d3, _, _, _, _⟩ := ed_in hW; go_simp; with_reducible rfl)
      refine held_take 4 (v := ?_) rfl (by kernel_rfl) (by kernel_rfl) (by kernel_rfl) (fun _ _ _ h => h) (by rfl) ?_ hS0 ?_
      rotate_left
      · (intro W hW; obtain ⟨r0, d0, d1, d2, d3, _, _, _, _⟩ := ed_in hW; go_simp; with_reducible rfl)
      refine held_take 6 (v := ?_) rfl (by kernel_rfl) (by kernel_rfl) (by kernel_rfl) (fun _ _ _ h => h) (by rfl) ?_ hS0 ?_
      rotate_left
      · (intro W hW; obtain ⟨r0, d0, d1, d2, d3, _, _, _, _⟩ := ed_in hW; go_simp; with_reducible rfl)
      refine held_take 7 (v := ?_) rfl (by kernel_rfl) (by kernel_rfl) (by kernel_rfl) (fun _ _ _ h => h) (by rfl) ?_ hS0 ?_
      rotate_left
      · (intro W hW; obtain ⟨r0, d0, d1, d2, d3, _, _, _, _⟩ := ed_in hW; go_simp; with_reducible rfl)
      refine held_take 8 (v := ?_) rfl (by kernel_rfl) (by kernel_rfl) (by kernel_rfl) (fun _ _ _ h => h) (by rfl) ?_ hS0 ?_
      rotate_left
      · (intro W hW; obtain ⟨r0, d0, d1, d2, d3, _, _, _, _⟩ := ed_in hW; go_simp; with_reducible rfl)
      refine held_take 9 (v := ?_) rfl (by kernel_rfl) (by kernel_rfl) (by kernel_rfl) (fun _ _ _ h => h) (by rfl) ?_ hS0 ?_
      rotate_left
      · (intro W hW; obtain ⟨r0, d0, d1, d2, d3, _, _, _, _⟩ := ed_in hW; go_simp; with_reducible rfl)
      refine held_norm (a' := ?_) ?_ ?_
      rotate_left
      · (go_simp; with_reducible rfl)
      refine held_call 5 (by kernel_rfl) rfl (by rfl) (fun K hK => ?_)
      go_simp
      go_wp2_with ((go_at_call 75; (with_reducible refine (HC1.out _).grows.mono ?_); rintro e3 w3 ⟨rfl, hg3⟩; have hS3 := hS0.grew hg3))
      refine hK.out _ _ hS3 ?_
      clear hK K
      refine held_call 10 (by kernel_rfl) rfl (by rfl) (fun K hK => ?_)
      go_simp
      go_wp2_with ((go_at_call 75; (with_reducible refine (HC2.out _).grows.mono ?_); rintro e4 w4 ⟨rfl, hg4⟩; have hS4 := hS3.grew hg4; have hU4 := hU0.on (hg3.trans hg4)))
      refine hK.out _ _ hS4 ?_
      clear hK K
      refine held_call 11 (by kernel_rfl) rfl (by rfl) (fun K hK => ?_)
      go_simp
      go_wp2_with ((go_at_call 74; (with_reducible refine (HJ.out _ hU4).mono ?_); rintro e5 w5 ⟨rfl, hU5, hk5⟩; have hS5 := hS4.keepB hk5 (by omega) (by omega)))
      refine hK.out _ _ hS5 ?_
      clear hK K
      refine held_done (by kernel_rfl) ?_
      have HU5 := Lib.hid hU5
      clear hS5 hU5 hk5 hU4 hS4 hg4 hg3 hS3 hS0 hU0
      go_wp2
      exact ⟨⟨i + 1, by omega, by go_num, by rw [HT.out]; exact HU5.out⟩, by simp only [intOf]; omega⟩
    · obtain rfl : i = l.length := by omega
      rw [List.take_length] at HS
      clear hg
      go_wp2
      go_ret
      exact ⟨g, h, rfl, HS.out.up HG0.out⟩
end Go.Proofs.Ytoaciliojdaoaaa

/- Layer 31: tells a query's tables apart; where a table stands in an order; a table's rank: by the program. Condition: memory that is there; a table that is there. -/
namespace Go.Proofs.Ytoaciliojdaoaaa
open Go.RowKit
attribute [local go_sem] more_cell more_frozen more_more more_setCell more_of_drew more_of_drewN lt_more le_more past_cell past_cell2 past_frozen past_frozen2 past_setCell past_setCell2 mid_cell mid_frozen mid_setCell
attribute [local go_sem ↓] Go.wp_at_zero Go.wp_at_succ

/-- Where a number first lies. -/
def IxAt31 (w : World) (l : List Int) (v : Int) (i : Value) (wr : World) : Prop := ∃ j : Nat, j ≤ l.length ∧ i = .int .i64 j ∧ Grew w wr ∧ ∀ (p : Nat) (hp : p < l.length), p < j → l[p] ≠ v
set_option maxHeartbeats 1000000 in
theorem index31_any (l : List Int) (v : Int) (A : Option Addr) (k : Nat) (hl : l.length ≤ 1000000) (w : World) (ra : Row w A (iV l)) :
    Gives Try.prog 53 #[.slice A l.length k, .int .i64 v] w (.int .i64 (ixI l v)) := by
  have RA := Lib.hid ra
  clear ra
  obtain ⟨fin, hfin⟩ : ∃ fin, ixI l v = fin := ⟨_, rfl⟩
  rw [hfin]
  have HF := Lib.hid hfin
  clear hfin
  unfold Gives
  go_enter Try.func53, Try.ntmps53
  go_wp2
  go_loopw [8] (fun i wr => IxAt31 w l v i wr) (fun i _ => l.length - (intOf i).toNat)
  case atStart => exact ⟨0, Nat.zero_le _, rfl, Grew.refl w, fun p hp h => absurd h (Nat.not_lt_zero _)⟩
  case round =>
    obtain ⟨j, hj, rfl, hg, hn⟩ := hrel
    have HG := Lib.hid hg
    have HN := Lib.hid hn
    clear hg hn
    by_cases h : j < l.length
    · obtain ⟨b, o, rfl, hb, hc⟩ := rowI_at (RA.out.grew HG.out) h
      have HX : Hid (l[j] = v → ixI l v = j) := Lib.hid fun e => ixI_at h e HN.out
      have HNx : Hid (l[j] ≠ v → ∀ (p : Nat) (hp : p < l.length), p < j + 1 → l[p] ≠ v) := Lib.hid fun e p hp h1 => by
        rcases Nat.lt_or_ge p j with h2 | h2
        · exact HN.out p hp h2
        · obtain rfl : p = j := by omega
          exact e
      clear HN
      generalize l[j] = x at *
      by_cases e : x = v
      · have hf : fin = j := by rw [← HF.out]; exact HX.out e
        have e1 : (v == x) = true := by simpa using e.symm
        subst hf
        clear HNx HX e
        go_wp2
        go_ret
        exact ⟨rfl, HG.out⟩
      · have HN2 := Lib.hid (HNx.out e)
        have e1 : (v == x) = false := by simpa using fun q => e q.symm
        clear HNx HX e
        go_wp2
        exact ⟨⟨j + 1, by omega, by go_num, HG.out, HN2.out⟩, by simp only [intOf]; omega⟩
    · obtain rfl : j = l.length := by omega
      have hf : fin = -1 := by rw [← HF.out]; exact ixI_none fun p hp => HN.out p hp hp
      subst hf
      go_wp2
      go_ret
      exact ⟨rfl, HG.out⟩
set_option maxHeartbeats 1000000 in
/-- Is a table one of the core? -/
theorem inc_any (t : Int) (n cb : Nat) (w : World) (hc : Blok w cb 3 #[.int .i64 n]) : Gives Try.prog 51 #[.int .i64 t, .pointer (some ⟨cb, 0, none⟩)] w (.bool (decide (0 ≤ t ∧ t < n))) := by
  have q0 := hc.cell 0
  have q1 := hc.lt
  simp at q0
  unfold Gives
  obtain ⟨fin, hfin⟩ : ∃ fin, decide (0 ≤ t ∧ t < (n : Int)) = fin := ⟨_, rfl⟩
  rw [hfin]
  have HF := Lib.hid hfin
  clear hfin hc
  by_cases h0 : 0 ≤ t
  · by_cases h1 : t < n
    · have e1 : decide (t < (n : Int)) = true := decide_eq_true h1
      have e0 : decide ((0 : Int) ≤ t) = true := decide_eq_true h0
      have hf : fin = true := by rw [← HF.out]; exact decide_eq_true ⟨h0, h1⟩
      subst hf
      go_enter Try.func51, Try.ntmps51
      go_wp2
      go_ret
      exact ⟨rfl, Grew.refl w⟩
    · have e1 : decide (t < (n : Int)) = false := decide_eq_false h1
      have e0 : decide ((0 : Int) ≤ t) = true := decide_eq_true h0
      have hf : fin = false := by rw [← HF.out]; exact decide_eq_false fun h => h1 h.2
      subst hf
      go_enter Try.func51, Try.ntmps51
      go_wp2
      go_ret
      exact ⟨rfl, Grew.refl w⟩
  · have e0 : decide ((0 : Int) ≤ t) = false := decide_eq_false h0
    have hf : fin = false := by rw [← HF.out]; exact decide_eq_false fun h => h0 h.1
    subst hf
    go_enter Try.func51, Try.ntmps51
    go_wp2
    go_ret
    exact ⟨rfl, Grew.refl w⟩
def laZ : Value := .agg #[.int .i64 0, .int .i64 0, .slice none 0 0, .slice none 0 0, .slice none 0 0]
theorem blok5 {w : World} {g : Nat} {c0 c1 c2 c3 c4 : Value} (h : Blok w g 72 #[c0, c1, c2, c3, c4]) (b0 b1 b2 b3 b4 : Value) : Blok (((((w.setCell ⟨g, 0, none⟩ b0).setCell ⟨g, 1, none⟩ b1).setCell ⟨g, 2, none⟩ b2).setCell ⟨g, 3, none⟩ b3).setCell ⟨g, 4, none⟩ b4) g 72 #[b0, b1, b2, b3, b4] := by
  have := ((((h.set 0 b0).set 1 b1).set 2 b2).set 3 b3).set 4 b4
  simpa using this
theorem la_cells {w : World} {g : Nat} {a0 a1 a2 a3 a4 : Value} (h : Blok w g 72 #[a0, a1, a2, a3, a4]) : g < w.heap.size ∧ w.cell? ⟨g, 0, none⟩ = some a0 ∧ w.cell? ⟨g, 1, none⟩ = some a1 ∧ w.cell? ⟨g, 2, none⟩ = some a2 ∧ w.cell? ⟨g, 3, none⟩ = some a3 ∧ w.cell? ⟨g, 4, none⟩ = some a4 ∧ w.frozen? ⟨g, 0, none⟩ = false ∧ w.frozen? ⟨g, 1, none⟩ = false ∧ w.frozen? ⟨g, 2, none⟩ = false ∧ w.frozen? ⟨g, 3, none⟩ = false ∧ w.frozen? ⟨g, 4, none⟩ = false :=
  ⟨h.lt, h.cell 0, h.cell 1, h.cell 2, h.cell 3, h.cell 4, h.thaw 0, h.thaw 1, h.thaw 2, h.thaw 3, h.thaw 4⟩
theorem grew_set5 {u w : World} (h : Grew u w) {g : Nat} (hg : u.heap.size ≤ g) (b0 b1 b2 b3 b4 : Value) : Grew u (((((w.setCell ⟨g, 0, none⟩ b0).setCell ⟨g, 1, none⟩ b1).setCell ⟨g, 2, none⟩ b2).setCell ⟨g, 3, none⟩ b3).setCell ⟨g, 4, none⟩ b4) :=
  Grew.setCell (Grew.setCell (Grew.setCell (Grew.setCell (Grew.setCell h hg _) hg _) hg _) hg _) hg _
set_option maxHeartbeats 4000000 in
/-- No late table: one of the core. -/
theorem late_none (t n cb nb : Nat) (ht : t < n) (w : World) (hc : Blok w cb 3 #[.int .i64 n]) : Gives Try.prog 52 #[.int .i64 t, .pointer (some ⟨cb, 0, none⟩), .pointer (some ⟨nb, 0, none⟩)] w (.tuple #[laZ, .bool false]) := by
  obtain ⟨W0, hW0⟩ : ∃ W0, W0 = w.alloc (.cells #[.int .i64 0, .int .i64 0, .slice none 0 0, .slice none 0 0, .slice none 0 0] 72) := ⟨_, rfl⟩
  have HG0 : Hid (Grew w W0) := Lib.hid (by rw [hW0]; exact (Grew.refl w).alloc _)
  have HR0 : Hid (Blok W0 w.heap.size 72 #[.int .i64 0, .int .i64 0, .slice none 0 0, .slice none 0 0, .slice none 0 0]) := Lib.hid (by rw [hW0]; exact Blok.new _ _ _ _ rfl)
  have hc0 := hc.grew HG0.out
  have q0 := hc0.cell 0
  have q1 := hc0.lt
  simp at q0
  have e1 : decide ((t : Int) < (n : Int)) = true := decide_eq_true (by omega)
  have e2 : (t : Int) < n := by omega
  obtain ⟨el, x0, x1, x2, x3, x4, f0, f1, f2, f3, f4⟩ := la_cells HR0.out
  unfold Gives
  unfold laZ
  clear hc hc0 ht
  go_enter Try.func52, Try.ntmps52
  go_upto_region 1 with fail
  rw [← hW0]
  clear hW0
  generalize hgw : w.heap.size = g at *
  have HGW := Lib.hid (Nat.le_of_eq hgw)
  clear hgw
  go_wp2
  have hb := blok5 HR0.out (.int .i64 0) (.int .i64 0) (.slice none 0 0) (.slice none 0 0) (.slice none 0 0)
  obtain ⟨_, r0, r1, r2, r3, r4, _⟩ := la_cells hb
  exact bodyPost_ret (v := .tuple #[.agg #[.int .i64 0, .int .i64 0, .slice none 0 0, .slice none 0 0, .slice none 0 0], .bool false]) (by simp [results, Try.results52, go_sem, r0, r1, r2, r3, r4]) rfl ⟨rfl, grew_set5 HG0.out HGW.out _ _ _ _ _⟩
def laV (x : La) (A : Option Addr) (k : Nat) (B : Option Addr) (j : Nat) (C : Option Addr) (c : Nat) : Value := .agg #[.int .i64 x.table, .int .i64 x.join, .slice A x.keys.length k, .slice B x.scan.length j, .slice C x.rest.length c]
set_option maxHeartbeats 4000000 in
/-- A late table, as it lies. -/
theorem late_some (i n cb nb : Nat) (l : List La) (hi : i < l.length) (hl : l.length ≤ 100000) (core : Int) (A : Option Addr) (k : Nat) (B : Option Addr) (m j : Nat) (C : Option Addr) (p c : Nat) (D : Option Addr) (d : Nat) (E : Option Addr) (q e : Nat) (w : World) (hc : Blok w cb 3 #[.int .i64 n]) (hb : Blok w nb 37 (nqC core A n k B m j C p c D l.length d E q e)) (hr : LasR (PRow w) D l) :
    ∃ K k S s T r, EdsR (PRow w) K l[i].keys ∧ ∀ W, Grew w W → Gives Try.prog 52 #[.int .i64 ((n + i : Nat) : Int), .pointer (some ⟨cb, 0, none⟩), .pointer (some ⟨nb, 0, none⟩)] W (.tuple #[laV l[i] K k S s T r, .bool true]) := by
  obtain ⟨b, o, K, k', S, s, T, r, rfl, hb0, y0, y1, y2, y3, y4, hk, _, _⟩ := lasR_at hr hi
  refine ⟨K, k', S, s, T, r, hk, fun W hW => ?_⟩
  have hy : ∀ (n : Nat) (v : Value), w.cell? ⟨b, n, none⟩ = some v → W.cell? ⟨b, n, none⟩ = some v := fun n v h => cell_keep hW hb0 h
  have z0 := hy _ _ y0
  have z1 := hy _ _ y1
  have z2 := hy _ _ y2
  have z3 := hy _ _ y3
  have z4 := hy _ _ y4
  have hbW := hb.grew hW
  have hcW := hc.grew hW
  have hlt : b < W.heap.size := Nat.lt_of_lt_of_le hb0 hW.size
  clear hy y0 y1 y2 y3 y4 hk hr hb hc hb0
  have hHb : Hid (Blok W nb 37 (nqC core A n k B m j C p c (some ⟨b, o, none⟩) l.length d E q e)) := Lib.hid hbW
  unfold nqC at hHb
  clear hbW
  obtain ⟨W0, hW0⟩ : ∃ W0, W0 = W.alloc (.cells #[.int .i64 0, .int .i64 0, .slice none 0 0, .slice none 0 0, .slice none 0 0] 72) := ⟨_, rfl⟩
  have HG0 : Hid (Grew W W0) := Lib.hid (by rw [hW0]; exact (Grew.refl W).alloc _)
  have HR0 : Hid (Blok W0 W.heap.size 72 #[.int .i64 0, .int .i64 0, .slice none 0 0, .slice none 0 0, .slice none 0 0]) := Lib.hid (by rw [hW0]; exact Blok.new _ _ _ _ rfl)
  have v0 := cell_keep HG0.out hlt z0
  have v1 := cell_keep HG0.out hlt z1
  have v2 := cell_keep HG0.out hlt z2
  have v3 := cell_keep HG0.out hlt z3
  have v4 := cell_keep HG0.out hlt z4
  have hlt0 : b < W0.heap.size := Nat.lt_of_lt_of_le hlt HG0.out.size
  have hc0 := hcW.grew HG0.out
  have q0 := hc0.cell 0
  have q1 := hc0.lt
  simp at q0
  obtain ⟨xl, x0, x1, x2, x3, x4, x5⟩ := nm_in (hHb.out.grew HG0.out)
  clear z0 z1 z2 z3 z4 hlt hcW hc0 hHb
  have e1 : decide (((n + i : Nat) : Int) < (n : Int)) = false := decide_eq_false (by omega)
  have e2 : ¬ ((n + i : Nat) : Int) < (n : Int) := by omega
  have e3 : IntKind.i64.wrap (((n + i : Nat) : Int) - (n : Int)) = (i : Int) := by rw [IntWalk.i64_in _ (by omega)]; omega
  have e4 : decide ((l.length : Int) ≤ (i : Int)) = false := decide_eq_false (by omega)
  have e5 : ¬ (l.length : Int) ≤ (i : Int) := by omega
  generalize ((n + i : Nat) : Int) = t at *
  generalize l[i] = x at *
  clear hi hl
  generalize l.length = ll at *
  obtain ⟨el, u0, u1, u2, u3, u4, f0, f1, f2, f3, f4⟩ := la_cells HR0.out
  unfold Gives
  unfold laV
  go_enter Try.func52, Try.ntmps52
  go_upto_region 1 with fail
  rw [← hW0]
  clear hW0
  generalize hgw : W.heap.size = g at *
  have HGW := Lib.hid (Nat.le_of_eq hgw)
  clear hgw
  go_wp2
  have hb := blok5 HR0.out (.int .i64 x.table) (.int .i64 x.join) (.slice K x.keys.length k') (.slice S x.scan.length s) (.slice T x.rest.length r)
  obtain ⟨_, r0, r1, r2, r3, r4, _⟩ := la_cells hb
  exact bodyPost_ret (v := .tuple #[.agg #[.int .i64 x.table, .int .i64 x.join, .slice K x.keys.length k', .slice S x.scan.length s, .slice T x.rest.length r], .bool true]) (by simp [results, Try.results52, go_sem, r0, r1, r2, r3, r4]) rfl ⟨rfl, grew_set5 HG0.out HGW.out _ _ _ _ _⟩
/-- The tables told apart: how many, and two questions. -/
def seV (m cb nb : Nat) : Value := .agg #[.int .i64 m, .func (.func 51) #[] #[.pointer (some ⟨cb, 0, none⟩)], .func (.func 52) #[] #[.pointer (some ⟨cb, 0, none⟩), .pointer (some ⟨nb, 0, none⟩)]]
def SeF (w : World) (n ll : Nat) (cs : Array Value) (e : Ending) (w' : World) : Prop := ∃ cb nb, e = .returned (seV (n + ll) cb nb) ∧ Grew w w' ∧ Blok w' cb 3 #[.int .i64 n] ∧ Blok w' nb 37 cs
theorem blok3 {w : World} {g : Nat} {t : TypeId} {c0 c1 c2 : Value} (h : Blok w g t #[c0, c1, c2]) (b0 b1 b2 : Value) : Blok (((w.setCell ⟨g, 0, none⟩ b0).setCell ⟨g, 1, none⟩ b1).setCell ⟨g, 2, none⟩ b2) g t #[b0, b1, b2] := by
  have := ((h.set 0 b0).set 1 b1).set 2 b2
  simpa using this
theorem b3_in {w : World} {g : Nat} {t : TypeId} {a0 a1 a2 : Value} (h : Blok w g t #[a0, a1, a2]) : g < w.heap.size ∧ w.cell? ⟨g, 0, none⟩ = some a0 ∧ w.cell? ⟨g, 1, none⟩ = some a1 ∧ w.cell? ⟨g, 2, none⟩ = some a2 ∧ w.frozen? ⟨g, 0, none⟩ = false ∧ w.frozen? ⟨g, 1, none⟩ = false ∧ w.frozen? ⟨g, 2, none⟩ = false :=
  ⟨h.lt, h.cell 0, h.cell 1, h.cell 2, h.thaw 0, h.thaw 1, h.thaw 2⟩
set_option maxHeartbeats 4000000 in
theorem seats_any (core : Int) (A : Option Addr) (n k : Nat) (B : Option Addr) (m j : Nat) (C : Option Addr) (p c : Nat) (D : Option Addr) (ll d : Nat) (E : Option Addr) (q e : Nat) (w : World) (hn : n ≤ 100000) (hl : ll ≤ 100000) :
    Calls Try.prog 29 #[.agg (nqC core A n k B m j C p c D ll d E q e)] w (SeF w n ll (nqC core A n k B m j C p c D ll d E q e)) := by
  obtain ⟨W0, hW0⟩ : ∃ W0, W0 = ((w.alloc (.cells (nqC core A n k B m j C p c D ll d E q e) 37)).alloc (.cells #[.int .i64 0, .nilFunc, .nilFunc] 77)).alloc (.cells #[.int .i64 n] 3) := ⟨_, rfl⟩
  have HG0 : Hid (Grew w W0) := Lib.hid (by rw [hW0]; exact (((Grew.refl w).alloc _).alloc _).alloc _)
  have HX0 : Hid (Blok W0 w.heap.size 37 (nqC core A n k B m j C p c D ll d E q e)) := Lib.hid (by rw [hW0]; exact ((Blok.new _ _ _ _ rfl).alloc _).alloc _)
  have HR0 : Hid (Blok W0 (w.heap.size + 1) 77 #[.int .i64 0, .nilFunc, .nilFunc]) := Lib.hid (by rw [hW0]; exact (Blok.new _ _ _ _ (by simp)).alloc _)
  have HC0 : Hid (Blok W0 (w.heap.size + 1 + 1) 3 #[.int .i64 n]) := Lib.hid (by rw [hW0]; exact Blok.new _ _ _ _ (by simp))
  unfold nqC at *
  have e3 : IntKind.i64.wrap ((n : Int) + (ll : Int)) = ((n + ll : Nat) : Int) := by rw [IntWalk.i64_in _ (by omega)]; omega
  unfold SeF
  generalize n + ll = mm at *
  go_enter Try.func29, Try.ntmps29
  go_upto_region 2 with fail
  rw [← hW0]
  clear hW0
  obtain ⟨xl, x0, x1, x2, x3, x4, x5⟩ := nm_in HX0.out
  obtain ⟨yl, y0, y1, y2, f0, f1, f2⟩ := b3_in HR0.out
  have q0 := HC0.out.cell 0
  have q1 := HC0.out.lt
  simp at q0
  have HNe : Hid (w.heap.size ≠ w.heap.size + 1 ∧ w.heap.size + 1 + 1 ≠ w.heap.size + 1) := Lib.hid (by omega)
  have HGe : Hid (w.heap.size ≤ w.heap.size + 1) := Lib.hid (by omega)
  generalize w.heap.size + 1 + 1 = b2 at *
  generalize w.heap.size + 1 = b1 at *
  generalize hb0 : w.heap.size = b0 at *
  go_wp2
  have hb := blok3 HR0.out (.int .i64 mm) (.func (.func 51) #[] #[.pointer (some ⟨b2, 0, none⟩)]) (.func (.func 52) #[] #[.pointer (some ⟨b2, 0, none⟩), .pointer (some ⟨b0, 0, none⟩)])
  obtain ⟨_, r0, r1, r2, _⟩ := b3_in hb
  refine bodyPost_ret (v := seV mm b2 b0) (by simp [seV, results, Try.results29, go_sem, r0, r1, r2]) rfl ⟨b2, b0, rfl, ?_, ?_, ?_⟩
  · exact Grew.setCell (Grew.setCell (Grew.setCell HG0.out (by rw [hb0]; exact HGe.out) _) (by rw [hb0]; exact HGe.out) _) (by rw [hb0]; exact HGe.out) _
  · exact ((HC0.out.far HNe.out.2 _).far HNe.out.2 _).far HNe.out.2 _
  · exact ((HX0.out.far HNe.out.1 _).far HNe.out.1 _).far HNe.out.1 _
theorem jsI_at {l : List La} {i n : Nat} (hi : i < l.length) : (jsI l).getD (((n + i : Nat) : Int) - (n : Int)).toNat 0 = l[i].join := by
  have e : (((n + i : Nat) : Int) - (n : Int)).toNat = i := by omega
  rw [e]
  simp [jsI, List.getD, hi]
set_option maxHeartbeats 8000000 in
set_option maxRecDepth 100000 in
theorem prank_any (core : Int) (l : List La) (order : List Int) (S : Option Addr) (ks : Nat) (t : Nat) (A : Option Addr) (n k : Nat) (B : Option Addr) (m j : Nat) (C : Option Addr) (p c : Nat) (D : Option Addr) (d : Nat) (E : Option Addr) (q e : Nat) (w : World) (hn : n ≤ 100000) (hl : l.length ≤ 100000) (ho : order.length ≤ 1000000) (ht : t < n + l.length)
    (hr : LasR (PRow w) D l) (hs : Row w S (iV order)) :
    Gives Try.prog 30 #[.agg (nqC core A n k B m j C p c D l.length d E q e), .slice S order.length ks, .int .i64 t] w (.int .i64 (rankI n (jsI l) order t)) := by
  have HSe := Lib.hid (fun W => seats_any core A n k B m j C p c D l.length d E q e W hn hl)
  have HIx := Lib.hid (fun W (hW : Grew w W) => index31_any order (t : Int) S ks ho W (hs.grew hW))
  have HR := Lib.hid hr
  clear hr hs
  obtain ⟨fin, hfin⟩ : ∃ fin, rankI n (jsI l) order t = fin := ⟨_, rfl⟩
  rw [hfin]
  have HFi := Lib.hid hfin
  clear hfin
  obtain ⟨W0, hW0⟩ : ∃ W0, W0 = w.alloc (.cells (nqC core A n k B m j C p c D l.length d E q e) 37) := ⟨_, rfl⟩
  have HG0 : Hid (Grew w W0) := Lib.hid (by rw [hW0]; exact (Grew.refl w).alloc _)
  have HX0 : Hid (Blok W0 w.heap.size 37 (nqC core A n k B m j C p c D l.length d E q e)) := Lib.hid (by rw [hW0]; exact Blok.new _ _ _ _ rfl)
  unfold Gives
  unfold nqC at *
  by_cases htn : t < n
  · have HI : Hid (∀ (cb : Nat) W, Blok W cb 3 #[.int .i64 n] → Gives Try.prog 51 #[.int .i64 t, .pointer (some ⟨cb, 0, none⟩)] W (.bool true)) := Lib.hid fun cb W hW => by
      have := inc_any t n cb W hW
      rwa [decide_eq_true (show (0 : Int) ≤ (t : Int) ∧ (t : Int) < (n : Int) by omega)] at this
    have HF2 : Hid (ixI order t < 0 → fin = -1) := Lib.hid fun h => by rw [← HFi.out, rankI, if_pos (by omega), if_pos h]
    have HF3 : Hid (¬ ixI order t < 0 → fin = 1 + ixI order t) := Lib.hid fun h => by rw [← HFi.out, rankI, if_pos (by omega), if_neg h]
    have hx1 := ixI_lt order t
    have hx2 := ixI_ge order t
    generalize ixI order t = r at *
    have hw1 : IntKind.i64.wrap (1 + r) = 1 + r := IntWalk.i64_in _ (by omega)
    have HB := Lib.hid (And.intro hx1 hx2)
    clear hx1 hx2 HFi
    by_cases hr : r < 0
    · have e1 : decide (r < (0 : Int)) = true := decide_eq_true hr
      have hf := HF2.out hr
      subst hf
      clear HF2 HF3
      go_enter Try.func30, Try.ntmps30
      go_upto_region 1 with fail
      rw [← hW0]
      clear hW0
      obtain ⟨xl, x0, x1, x2, x3, x4, x5⟩ := nm_in HX0.out
      go_upto_region 2 with (go_at_call 29; (with_reducible refine (HSe.out _).mono ?_); rintro e2 w2 ⟨cb, nb, rfl, hg2, hc2, hb2⟩; have HG2 := Lib.hid (HG0.out.trans hg2); have HC2 := Lib.hid hc2; have HB2 := Lib.hid hb2; clear hg2 hc2 hb2; unfold seV)
      clear xl x0 x1 x2 x3 x4 x5
      obtain ⟨w3, hw3⟩ : ∃ w3, w3 = w2.alloc (.cells #[.int .i64 ((n : Int) + (l.length : Int)), .func (.func 51) #[] #[.pointer (some ⟨cb, 0, none⟩)], .func (.func 52) #[] #[.pointer (some ⟨cb, 0, none⟩), .pointer (some ⟨nb, 0, none⟩)]] 77) := ⟨_, rfl⟩
      have HS3 : Hid (Blok w3 w2.heap.size 77 #[.int .i64 ((n : Int) + (l.length : Int)), .func (.func 51) #[] #[.pointer (some ⟨cb, 0, none⟩)], .func (.func 52) #[] #[.pointer (some ⟨cb, 0, none⟩), .pointer (some ⟨nb, 0, none⟩)]]) := Lib.hid (by rw [hw3]; exact Blok.new _ _ _ _ rfl)
      have HG3 : Hid (Grew w w3) := Lib.hid (by rw [hw3]; exact HG2.out.alloc _)
      have HC3 : Hid (Blok w3 cb 3 #[.int .i64 n]) := Lib.hid (by rw [hw3]; exact HC2.out.alloc _)
      have HB3 : Hid (Blok w3 nb 37 #[.int .i64 core, .slice A n k, .slice B m j, .slice C p c, .slice D l.length d, .slice E q e]) := Lib.hid (by rw [hw3]; exact HB2.out.alloc _)
      rw [← hw3]
      clear hw3 HC2 HB2
      generalize w2.heap.size = bs at *
      generalize ((n : Int) + (l.length : Int)) = sum at *
      obtain ⟨yl, y0, y1, y2, _, _, _⟩ := b3_in HS3.out
      go_wp2_with (first | (go_at_call 51; (with_reducible refine (HI.out _ _ HC3.out).grows.mono ?_); rintro e4 w4 ⟨rfl, hg4⟩; have HG4 := Lib.hid (HG3.out.trans hg4); clear hg4) | (go_at_call 53; (with_reducible refine (HIx.out _ HG4.out).grows.mono ?_); rintro e5 w5 ⟨rfl, hg5⟩; have HG5 := Lib.hid (HG4.out.trans hg5); clear hg5))
      go_ret
      exact ⟨rfl, HG5.out⟩
    · have e1 : decide (r < (0 : Int)) = false := decide_eq_false hr
      have hf := HF3.out hr
      subst hf
      clear HF2 HF3
      go_enter Try.func30, Try.ntmps30
      go_upto_region 1 with fail
      rw [← hW0]
      clear hW0
      obtain ⟨xl, x0, x1, x2, x3, x4, x5⟩ := nm_in HX0.out
      go_upto_region 2 with (go_at_call 29; (with_reducible refine (HSe.out _).mono ?_); rintro e2 w2 ⟨cb, nb, rfl, hg2, hc2, hb2⟩; have HG2 := Lib.hid (HG0.out.trans hg2); have HC2 := Lib.hid hc2; have HB2 := Lib.hid hb2; clear hg2 hc2 hb2; unfold seV)
      clear xl x0 x1 x2 x3 x4 x5
      obtain ⟨w3, hw3⟩ : ∃ w3, w3 = w2.alloc (.cells #[.int .i64 ((n : Int) + (l.length : Int)), .func (.func 51) #[] #[.pointer (some ⟨cb, 0, none⟩)], .func (.func 52) #[] #[.pointer (some ⟨cb, 0, none⟩), .pointer (some ⟨nb, 0, none⟩)]] 77) := ⟨_, rfl⟩
      have HS3 : Hid (Blok w3 w2.heap.size 77 #[.int .i64 ((n : Int) + (l.length : Int)), .func (.func 51) #[] #[.pointer (some ⟨cb, 0, none⟩)], .func (.func 52) #[] #[.pointer (some ⟨cb, 0, none⟩), .pointer (some ⟨nb, 0, none⟩)]]) := Lib.hid (by rw [hw3]; exact Blok.new _ _ _ _ rfl)
      have HG3 : Hid (Grew w w3) := Lib.hid (by rw [hw3]; exact HG2.out.alloc _)
      have HC3 : Hid (Blok w3 cb 3 #[.int .i64 n]) := Lib.hid (by rw [hw3]; exact HC2.out.alloc _)
      have HB3 : Hid (Blok w3 nb 37 #[.int .i64 core, .slice A n k, .slice B m j, .slice C p c, .slice D l.length d, .slice E q e]) := Lib.hid (by rw [hw3]; exact HB2.out.alloc _)
      rw [← hw3]
      clear hw3 HC2 HB2
      generalize w2.heap.size = bs at *
      generalize ((n : Int) + (l.length : Int)) = sum at *
      obtain ⟨yl, y0, y1, y2, _, _, _⟩ := b3_in HS3.out
      go_wp2_with (first | (go_at_call 51; (with_reducible refine (HI.out _ _ HC3.out).grows.mono ?_); rintro e4 w4 ⟨rfl, hg4⟩; have HG4 := Lib.hid (HG3.out.trans hg4); clear hg4) | (go_at_call 53; (with_reducible refine (HIx.out _ HG4.out).grows.mono ?_); rintro e5 w5 ⟨rfl, hg5⟩; have HG5 := Lib.hid (HG4.out.trans hg5); clear hg5))
      go_ret
      exact ⟨rfl, HG5.out⟩
  · obtain ⟨i, rfl⟩ : ∃ i, t = n + i := ⟨t - n, by omega⟩
    have hi : i < l.length := by omega
    have HI : Hid (∀ (cb : Nat) W, Blok W cb 3 #[.int .i64 n] → Gives Try.prog 51 #[.int .i64 ((n + i : Nat) : Int), .pointer (some ⟨cb, 0, none⟩)] W (.bool false)) := Lib.hid fun cb W hW => by
      have := inc_any ((n + i : Nat) : Int) n cb W hW
      rwa [decide_eq_false (show ¬ ((0 : Int) ≤ ((n + i : Nat) : Int) ∧ ((n + i : Nat) : Int) < (n : Int)) by omega)] at this
    have HF1 : Hid (fin = if l[i].join = 2 ∨ l[i].join = 4 then 0 else 1 + ((n + i : Nat) : Int)) := Lib.hid (by rw [← HFi.out, rankI, if_neg (by omega), if_neg (by simp [jsI]; omega), jsI_at hi])
    have HL3 : Hid (∀ cb nb W, Grew w W → Blok W cb 3 #[.int .i64 n] → Blok W nb 37 #[.int .i64 core, .slice A n k, .slice B m j, .slice C p c, .slice D l.length d, .slice E q e] → ∃ K k S s T r, EdsR (PRow W) K l[i].keys ∧ ∀ W', Grew W W' → Gives Try.prog 52 #[.int .i64 ((n + i : Nat) : Int), .pointer (some ⟨cb, 0, none⟩), .pointer (some ⟨nb, 0, none⟩)] W' (.tuple #[laV l[i] K k S s T r, .bool true])) := Lib.hid fun cb nb W hW h1 h2 => late_some i n cb nb l hi hl core A k B m j C p c D d E q e W h1 h2 (HR.out.grew hW)
    have hw1 : IntKind.i64.wrap (1 + ((n + i : Nat) : Int)) = 1 + ((n + i : Nat) : Int) := IntWalk.i64_in _ (by omega)
    clear HFi HIx htn ht
    generalize ((n + i : Nat) : Int) = t at *
    generalize l[i] = x at *
    clear hi hl HR
    have cases3 : x.join = 2 ∨ (¬ x.join = 2 ∧ x.join = 4) ∨ (¬ x.join = 2 ∧ ¬ x.join = 4) := by omega
    rcases cases3 with h1 | ⟨h1, h2⟩ | ⟨h1, h2⟩
    · have hf : fin = 0 := by rw [HF1.out, if_pos (Or.inl h1)]
      have e2 : (x.join == 2) = true := by rw [h1]; rfl
      subst hf
      clear HF1
      go_enter Try.func30, Try.ntmps30
      go_upto_region 1 with fail
      rw [← hW0]
      clear hW0
      obtain ⟨xl, x0, x1, x2, x3, x4, x5⟩ := nm_in HX0.out
      go_upto_region 2 with (go_at_call 29; (with_reducible refine (HSe.out _).mono ?_); rintro e2 w2 ⟨cb, nb, rfl, hg2, hc2, hb2⟩; have HG2 := Lib.hid (HG0.out.trans hg2); have HC2 := Lib.hid hc2; have HB2 := Lib.hid hb2; clear hg2 hc2 hb2; unfold seV)
      clear xl x0 x1 x2 x3 x4 x5
      obtain ⟨w3, hw3⟩ : ∃ w3, w3 = w2.alloc (.cells #[.int .i64 ((n : Int) + (l.length : Int)), .func (.func 51) #[] #[.pointer (some ⟨cb, 0, none⟩)], .func (.func 52) #[] #[.pointer (some ⟨cb, 0, none⟩), .pointer (some ⟨nb, 0, none⟩)]] 77) := ⟨_, rfl⟩
      have HS3 : Hid (Blok w3 w2.heap.size 77 #[.int .i64 ((n : Int) + (l.length : Int)), .func (.func 51) #[] #[.pointer (some ⟨cb, 0, none⟩)], .func (.func 52) #[] #[.pointer (some ⟨cb, 0, none⟩), .pointer (some ⟨nb, 0, none⟩)]]) := Lib.hid (by rw [hw3]; exact Blok.new _ _ _ _ rfl)
      have HG3 : Hid (Grew w w3) := Lib.hid (by rw [hw3]; exact HG2.out.alloc _)
      have HC3 : Hid (Blok w3 cb 3 #[.int .i64 n]) := Lib.hid (by rw [hw3]; exact HC2.out.alloc _)
      have HB3 : Hid (Blok w3 nb 37 #[.int .i64 core, .slice A n k, .slice B m j, .slice C p c, .slice D l.length d, .slice E q e]) := Lib.hid (by rw [hw3]; exact HB2.out.alloc _)
      rw [← hw3]
      clear hw3 HC2 HB2
      generalize w2.heap.size = bs at *
      generalize ((n : Int) + (l.length : Int)) = sum at *
      obtain ⟨yl, y0, y1, y2, _, _, _⟩ := b3_in HS3.out
      obtain ⟨K, kk, S2, s2, T2, r2, _, hL⟩ := HL3.out cb nb w3 HG3.out HC3.out HB3.out
      have HL := Lib.hid hL
      clear hL
      unfold laV at HL
      go_upto_region 7 with (go_at_call 51; (with_reducible refine (HI.out _ _ HC3.out).grows.mono ?_); rintro e4 w4 ⟨rfl, hg4⟩; have HG4 := Lib.hid hg4; clear hg4)
      obtain ⟨yl4, y4, y5, y6, _, _, _⟩ := b3_in (HS3.out.grew HG4.out)
      go_upto_region 8 with (go_at_call 52; (with_reducible refine (HL.out _ HG4.out).grows.mono ?_); rintro e5 w5 ⟨rfl, hg5⟩; have HG5 := Lib.hid (HG4.out.trans hg5); clear hg5)
      have hb6 : Blok (w5.alloc (.cells #[.int .i64 x.table, .int .i64 x.join, .slice K x.keys.length kk, .slice S2 x.scan.length s2, .slice T2 x.rest.length r2] 72)) w5.heap.size 72 #[.int .i64 x.table, .int .i64 x.join, .slice K x.keys.length kk, .slice S2 x.scan.length s2, .slice T2 x.rest.length r2] := Blok.new _ _ _ _ rfl
      obtain ⟨zl, z0, z1, z2, z3, z4, _⟩ := la_cells hb6
      clear hb6
      go_wp2_with fail
      go_ret
      exact ⟨rfl, HG3.out.trans (HG5.out.alloc _)⟩
    · have hf : fin = 0 := by rw [HF1.out, if_pos (Or.inr h2)]
      have e2 : (x.join == 2) = false := by simpa using h1
      have e3 : (x.join == 4) = true := by rw [h2]; rfl
      clear h1 h2
      subst hf
      clear HF1
      go_enter Try.func30, Try.ntmps30
      go_upto_region 1 with fail
      rw [← hW0]
      clear hW0
      obtain ⟨xl, x0, x1, x2, x3, x4, x5⟩ := nm_in HX0.out
      go_upto_region 2 with (go_at_call 29; (with_reducible refine (HSe.out _).mono ?_); rintro e2 w2 ⟨cb, nb, rfl, hg2, hc2, hb2⟩; have HG2 := Lib.hid (HG0.out.trans hg2); have HC2 := Lib.hid hc2; have HB2 := Lib.hid hb2; clear hg2 hc2 hb2; unfold seV)
      clear xl x0 x1 x2 x3 x4 x5
      obtain ⟨w3, hw3⟩ : ∃ w3, w3 = w2.alloc (.cells #[.int .i64 ((n : Int) + (l.length : Int)), .func (.func 51) #[] #[.pointer (some ⟨cb, 0, none⟩)], .func (.func 52) #[] #[.pointer (some ⟨cb, 0, none⟩), .pointer (some ⟨nb, 0, none⟩)]] 77) := ⟨_, rfl⟩
      have HS3 : Hid (Blok w3 w2.heap.size 77 #[.int .i64 ((n : Int) + (l.length : Int)), .func (.func 51) #[] #[.pointer (some ⟨cb, 0, none⟩)], .func (.func 52) #[] #[.pointer (some ⟨cb, 0, none⟩), .pointer (some ⟨nb, 0, none⟩)]]) := Lib.hid (by rw [hw3]; exact Blok.new _ _ _ _ rfl)
      have HG3 : Hid (Grew w w3) := Lib.hid (by rw [hw3]; exact HG2.out.alloc _)
      have HC3 : Hid (Blok w3 cb 3 #[.int .i64 n]) := Lib.hid (by rw [hw3]; exact HC2.out.alloc _)
      have HB3 : Hid (Blok w3 nb 37 #[.int .i64 core, .slice A n k, .slice B m j, .slice C p c, .slice D l.length d, .slice E q e]) := Lib.hid (by rw [hw3]; exact HB2.out.alloc _)
      rw [← hw3]
      clear hw3 HC2 HB2
      generalize w2.heap.size = bs at *
      generalize ((n : Int) + (l.length : Int)) = sum at *
      obtain ⟨yl, y0, y1, y2, _, _, _⟩ := b3_in HS3.out
      obtain ⟨K, kk, S2, s2, T2, r2, _, hL⟩ := HL3.out cb nb w3 HG3.out HC3.out HB3.out
      have HL := Lib.hid hL
      clear hL
      unfold laV at HL
      go_upto_region 7 with (go_at_call 51; (with_reducible refine (HI.out _ _ HC3.out).grows.mono ?_); rintro e4 w4 ⟨rfl, hg4⟩; have HG4 := Lib.hid hg4; clear hg4)
      obtain ⟨yl4, y4, y5, y6, _, _, _⟩ := b3_in (HS3.out.grew HG4.out)
      go_upto_region 8 with (go_at_call 52; (with_reducible refine (HL.out _ HG4.out).grows.mono ?_); rintro e5 w5 ⟨rfl, hg5⟩; have HG5 := Lib.hid (HG4.out.trans hg5); clear hg5)
      have hb6 : Blok (w5.alloc (.cells #[.int .i64 x.table, .int .i64 x.join, .slice K x.keys.length kk, .slice S2 x.scan.length s2, .slice T2 x.rest.length r2] 72)) w5.heap.size 72 #[.int .i64 x.table, .int .i64 x.join, .slice K x.keys.length kk, .slice S2 x.scan.length s2, .slice T2 x.rest.length r2] := Blok.new _ _ _ _ rfl
      obtain ⟨zl, z0, z1, z2, z3, z4, _⟩ := la_cells hb6
      clear hb6
      go_wp2_with fail
      go_ret
      exact ⟨rfl, HG3.out.trans (HG5.out.alloc _)⟩
    · have hf : fin = 1 + t := by rw [HF1.out, if_neg (by omega)]
      have e2 : (x.join == 2) = false := by simpa using h1
      have e3 : (x.join == 4) = false := by simpa using h2
      clear h1 h2
      subst hf
      clear HF1
      go_enter Try.func30, Try.ntmps30
      go_upto_region 1 with fail
      rw [← hW0]
      clear hW0
      obtain ⟨xl, x0, x1, x2, x3, x4, x5⟩ := nm_in HX0.out
      go_upto_region 2 with (go_at_call 29; (with_reducible refine (HSe.out _).mono ?_); rintro e2 w2 ⟨cb, nb, rfl, hg2, hc2, hb2⟩; have HG2 := Lib.hid (HG0.out.trans hg2); have HC2 := Lib.hid hc2; have HB2 := Lib.hid hb2; clear hg2 hc2 hb2; unfold seV)
      clear xl x0 x1 x2 x3 x4 x5
      obtain ⟨w3, hw3⟩ : ∃ w3, w3 = w2.alloc (.cells #[.int .i64 ((n : Int) + (l.length : Int)), .func (.func 51) #[] #[.pointer (some ⟨cb, 0, none⟩)], .func (.func 52) #[] #[.pointer (some ⟨cb, 0, none⟩), .pointer (some ⟨nb, 0, none⟩)]] 77) := ⟨_, rfl⟩
      have HS3 : Hid (Blok w3 w2.heap.size 77 #[.int .i64 ((n : Int) + (l.length : Int)), .func (.func 51) #[] #[.pointer (some ⟨cb, 0, none⟩)], .func (.func 52) #[] #[.pointer (some ⟨cb, 0, none⟩), .pointer (some ⟨nb, 0, none⟩)]]) := Lib.hid (by rw [hw3]; exact Blok.new _ _ _ _ rfl)
      have HG3 : Hid (Grew w w3) := Lib.hid (by rw [hw3]; exact HG2.out.alloc _)
      have HC3 : Hid (Blok w3 cb 3 #[.int .i64 n]) := Lib.hid (by rw [hw3]; exact HC2.out.alloc _)
      have HB3 : Hid (Blok w3 nb 37 #[.int .i64 core, .slice A n k, .slice B m j, .slice C p c, .slice D l.length d, .slice E q e]) := Lib.hid (by rw [hw3]; exact HB2.out.alloc _)
      rw [← hw3]
      clear hw3 HC2 HB2
      generalize w2.heap.size = bs at *
      generalize ((n : Int) + (l.length : Int)) = sum at *
      obtain ⟨yl, y0, y1, y2, _, _, _⟩ := b3_in HS3.out
      obtain ⟨K, kk, S2, s2, T2, r2, _, hL⟩ := HL3.out cb nb w3 HG3.out HC3.out HB3.out
      have HL := Lib.hid hL
      clear hL
      unfold laV at HL
      go_upto_region 7 with (go_at_call 51; (with_reducible refine (HI.out _ _ HC3.out).grows.mono ?_); rintro e4 w4 ⟨rfl, hg4⟩; have HG4 := Lib.hid hg4; clear hg4)
      obtain ⟨yl4, y4, y5, y6, _, _, _⟩ := b3_in (HS3.out.grew HG4.out)
      go_upto_region 8 with (go_at_call 52; (with_reducible refine (HL.out _ HG4.out).grows.mono ?_); rintro e5 w5 ⟨rfl, hg5⟩; have HG5 := Lib.hid (HG4.out.trans hg5); clear hg5)
      have hb6 : Blok (w5.alloc (.cells #[.int .i64 x.table, .int .i64 x.join, .slice K x.keys.length kk, .slice S2 x.scan.length s2, .slice T2 x.rest.length r2] 72)) w5.heap.size 72 #[.int .i64 x.table, .int .i64 x.join, .slice K x.keys.length kk, .slice S2 x.scan.length s2, .slice T2 x.rest.length r2] := Blok.new _ _ _ _ rfl
      obtain ⟨zl, z0, z1, z2, z3, z4, _⟩ := la_cells hb6
      clear hb6
      go_wp2_with fail
      go_ret
      exact ⟨rfl, HG3.out.trans (HG5.out.alloc _)⟩
end Go.Proofs.Ytoaciliojdaoaaa

/- Layer 31: a table's column of a class; the columns of two tables of the core, by the program. Condition: classes of a call's own. -/
namespace Go.Proofs.Ytoaciliojdaoaaa
open Go.RowKit
attribute [local go_sem] more_cell more_frozen more_more more_setCell more_of_drew more_of_drewN lt_more le_more past_cell past_cell2 past_frozen past_frozen2 past_setCell past_setCell2 mid_cell mid_frozen mid_setCell
attribute [local go_sem ↓] Go.wp_at_zero Go.wp_at_succ

def ClAt (u v : World) (g h : Nat) (R : Nat → Nat) (t k : Int) (i : Value) (wr : World) : Prop := ∃ q : Nat, q ≤ 16 ∧ i = .int .i64 q ∧ UfS u g h 128 R wr ∧ Keep2 v wr g h ∧ ∀ d : Nat, d < q → clI R t d ≠ k
/-- What comes back of questions about classes: a number, the classes as they were but for their paths. -/
def ColK (u v : World) (g h : Nat) (R : Nat → Nat) (x : Int) (e : Ending) (w' : World) : Prop := e = .returned (.int .i64 x) ∧ UfS u g h 128 R w' ∧ Keep2 v w' g h
set_option maxHeartbeats 4000000 in
theorem pcolumn_any (t k : Int) (u v : World) (g h : Nat) (R : Nat → Nat) (s : UfS u g h 128 R v) :
    Calls Try.prog 76 #[.pointer (some ⟨g, 0, none⟩), .int .i64 t, .int .i64 k] v (ColK u v g h R (colF (clI R) t k)) := by
  have HS := Lib.hid s
  have HC : Hid (∀ (c : Int) W, Gives Try.prog 75 #[.int .i64 t, .int .i64 c] W (.int .i64 (columnI t c))) := Lib.hid fun c W => column_any t c W
  have HF : Hid (∀ W (c : Int), UfS u g h 128 R W → Calls Try.prog 77 #[.pointer (some ⟨g, 0, none⟩), .int .i64 (columnI t c)] W fun e w' => e = .returned (.int .i64 (clI R t c)) ∧ UfS u g h 128 R w' ∧ Keep2 W w' g h) := Lib.hid fun W c hW => uf_find _ _ u W g h 128 R hW rfl
  clear s
  obtain ⟨fin, hfin⟩ : ∃ fin, colF (clI R) t k = fin := ⟨_, rfl⟩
  rw [hfin]
  have HFi := Lib.hid hfin
  clear hfin
  by_cases hk : k < 0
  · have e1 : decide (k < (0 : Int)) = true := decide_eq_true hk
    have hf : fin = -1 := by rw [← HFi.out]; unfold colF; rw [if_pos hk]
    subst hf
    go_enter Try.func76, Try.ntmps76
    go_wp2
    go_ret
    exact ⟨rfl, HS.out, Keep2.refl _ _ _⟩
  · have e1 : decide (k < (0 : Int)) = false := decide_eq_false hk
    have HK := Lib.hid hk
    clear hk
    go_enter Try.func76, Try.ntmps76
    go_wp2_with fail
    go_loopw [10] (fun i wr => ClAt u v g h R t k i wr) (fun i _ => 16 - (intOf i).toNat)
    case atStart => exact ⟨0, by omega, rfl, HS.out, Keep2.refl _ _ _, fun d hd => absurd hd (Nat.not_lt_zero _)⟩
    case round =>
      obtain ⟨q, hq, rfl, hs, hk, hn⟩ := hrel
      have HS2 := Lib.hid hs
      have HKp := Lib.hid hk
      have HN := Lib.hid hn
      clear hs hk hn
      by_cases hlt : q < 16
      · have HC1 := Lib.hid (HC.out q)
        have HF1 : Hid (∀ W, UfS u g h 128 R W → Calls Try.prog 77 #[.pointer (some ⟨g, 0, none⟩), .int .i64 (columnI t q)] W fun e w' => e = .returned (.int .i64 (clI R t q)) ∧ UfS u g h 128 R w' ∧ Keep2 W w' g h) := Lib.hid fun W hW => HF.out W q hW
        have HE : Hid (clI R t q = k → fin = q) := Lib.hid fun he => by rw [← HFi.out]; exact colF_some (by have := HK.out; omega) hlt he HN.out
        have HN2 : Hid (clI R t q ≠ k → ∀ d : Nat, d < q + 1 → clI R t d ≠ k) := Lib.hid fun he d hd => by
          rcases Nat.lt_or_ge d q with h1 | h1
          · exact HN.out d h1
          · obtain rfl : d = q := by omega
            exact he
        generalize clI R t q = x at *
        generalize columnI t q = y at *
        clear HN
        by_cases he : x = k
        · have e2 : (x == k) = true := by simpa using he
          have hf := HE.out he
          subst hf
          clear he HE HN2
          go_wp2_with (first | (go_at_call 75; (with_reducible refine (HC1.out _).grows.mono ?_); rintro e5 w5 ⟨rfl, hg5⟩; have HS5 := Lib.hid (HS2.out.on hg5); have HK5 := Lib.hid (HKp.out.on hg5); clear hg5) | (go_at_call 77; (with_reducible refine (HF1.out _ HS5.out).mono ?_); rintro e6 w6 ⟨rfl, hs6, hk6⟩; have HS6 := Lib.hid hs6; have HK6 := Lib.hid (HK5.out.trans hk6); clear hs6 hk6))
          go_ret
          exact ⟨rfl, HS6.out, HK6.out⟩
        · have e2 : (x == k) = false := by simpa using he
          have HN3 := Lib.hid (HN2.out he)
          clear he HE HN2
          go_wp2_with (first | (go_at_call 75; (with_reducible refine (HC1.out _).grows.mono ?_); rintro e5 w5 ⟨rfl, hg5⟩; have HS5 := Lib.hid (HS2.out.on hg5); have HK5 := Lib.hid (HKp.out.on hg5); clear hg5) | (go_at_call 77; (with_reducible refine (HF1.out _ HS5.out).mono ?_); rintro e6 w6 ⟨rfl, hs6, hk6⟩; have HS6 := Lib.hid hs6; have HK6 := Lib.hid (HK5.out.trans hk6); clear hs6 hk6))
          exact ⟨⟨q + 1, by omega, by go_num, HS6.out, HK6.out, HN3.out⟩, by simp only [intOf]; omega⟩
      · obtain rfl : q = 16 := by omega
        have hf : fin = -1 := by rw [← HFi.out]; exact colF_none HN.out
        subst hf
        go_wp2
        go_ret
        exact ⟨rfl, HS2.out, HKp.out⟩
/-- Two rows of one's own, of columns, side by side. -/
structure Two (v : World) (l : List (Int × Int)) (A : Option Addr) (c : Nat) (B : Option Addr) (d : Nat) (wr : World) : Prop where
  one : wr.ownsRow v.heap.size 3 1 (.slice A l.length c) l.length (iV (lcP l))
  two : wr.ownsRow v.heap.size 3 1 (.slice B l.length d) l.length (iV (rcP l))
  ne : ∀ i, (Value.slice B l.length d).ownBlock = some i → some i ≠ (Value.slice A l.length c).ownBlock
theorem Two.nil (v : World) : Two v [] none 0 none 0 v := ⟨own_none _ _ _ _, own_none _ _ _ _, fun i h => by cases h⟩
section
variable {u v wr w' : World} {g h : Nat} {R : Nat → Nat} {l : List (Int × Int)} {A B : Option Addr} {c d : Nat}
theorem Two.on (s : Two v l A c B d wr) (k : Grew wr w') : Two v l A c B d w' := ⟨own_grewE s.one k, own_grewE s.two k, s.ne⟩
theorem Two.keep (s : Two v l A c B d wr) (k : Keep2 wr w' g h) (hg : g < v.heap.size ∧ h < v.heap.size) : Two v l A c B d w' :=
  ⟨own_same s.one fun i hi => k.block i (own_lt s.one i hi) (by have := own_base s.one i hi; omega) (by have := own_base s.one i hi; omega), own_same s.two fun i hi => k.block i (own_lt s.two i hi) (by have := own_base s.two i hi; omega) (by have := own_base s.two i hi; omega), s.ne⟩
theorem Two.rows (s : Two v l A c B d wr) : BetR v wr l (.slice A l.length c) (.slice B l.length d) :=
  ⟨A, c, B, d, by rw [lcP_len], by rw [rcP_len], TRow.own s.one, TRow.own s.two⟩
/-- Behind the first of two appends. -/
structure TwoH (v : World) (l : List (Int × Int)) (y : Int) (A : Option Addr) (c : Nat) (B : Option Addr) (d : Nat) (wr : World) : Prop where
  one : wr.ownsRow v.heap.size 3 1 (.slice A (l.length + 1) c) (l.length + 1) (iV (lcP l) ++ [.int .i64 y])
  two : wr.ownsRow v.heap.size 3 1 (.slice B l.length d) l.length (iV (rcP l))
  ne : ∀ i, (Value.slice B l.length d).ownBlock = some i → some i ≠ (Value.slice A (l.length + 1) c).ownBlock
theorem TwoH.on {y : Int} (s : TwoH v l y A c B d wr) (k : Grew wr w') : TwoH v l y A c B d w' := ⟨own_grewE s.one k, own_grewE s.two k, s.ne⟩
theorem Two.half {A' : Option Addr} {c' : Nat} {y : Int} (s : Two v l A c B d wr) (ho : w'.ownsRow v.heap.size 3 1 (.slice A' (l.length + 1) c') (l.length + 1) (iV (lcP l) ++ [.int .i64 y])) (hgb : wr.grownBy w' (Value.slice A l.length c).ownBlock)
    (hor : (Value.slice A' (l.length + 1) c').ownBlock = (Value.slice A l.length c).ownBlock ∨ (Value.slice A' (l.length + 1) c').ownBlock = some wr.heap.size) : TwoH v l y A' c' B d w' :=
  ⟨ho, own_grown s.two hgb s.ne, fun i hi => by
    rcases hor with e | e
    · rw [e]; exact s.ne i hi
    · rw [e]
      intro e2
      cases e2
      exact absurd (own_lt s.two _ hi) (Nat.lt_irrefl _)⟩
theorem TwoH.whole {B' : Option Addr} {d' : Nat} {x y : Int} (s : TwoH v l x A c B d wr) (ho : w'.ownsRow v.heap.size 3 1 (.slice B' (l.length + 1) d') (l.length + 1) (iV (rcP l) ++ [.int .i64 y])) (hgb : wr.grownBy w' (Value.slice B l.length d).ownBlock)
    (hor : (Value.slice B' (l.length + 1) d').ownBlock = (Value.slice B l.length d).ownBlock ∨ (Value.slice B' (l.length + 1) d').ownBlock = some wr.heap.size) : Two v (l ++ [(x, y)]) A c B' d' w' := by
  have e1 : iV (lcP (l ++ [(x, y)])) = iV (lcP l) ++ [.int .i64 x] := by simp [iV, lcP]
  have e2 : iV (rcP (l ++ [(x, y)])) = iV (rcP l) ++ [.int .i64 y] := by simp [iV, rcP]
  have e3 : (l ++ [(x, y)]).length = l.length + 1 := by simp
  have hA := own_grown s.one hgb fun i hi e => s.ne i e.symm hi.symm
  refine ⟨by rw [e1, e3]; exact hA, by rw [e2, e3]; exact ho, fun i hi => ?_⟩
  rw [e3] at hi ⊢
  rcases hor with e | e
  · rw [e] at hi; exact s.ne i hi
  · rw [e] at hi
    cases hi
    intro e4
    exact absurd (own_lt s.one _ e4.symm) (Nat.lt_irrefl _)
theorem UfS.grownT {row : Option Nat} (s : UfS u g h 128 R wr) (hgb : wr.grownBy w' row) (hg : g < v.heap.size ∧ h < v.heap.size) (hu : u.heap.size ≤ v.heap.size) (hr : ∀ i, row = some i → v.heap.size ≤ i) : UfS u g h 128 R w' :=
  s.grown hgb fun i hi => by have := hr i hi; omega
theorem Keep2.grownT {row : Option Nat} (s : Keep2 v wr g h) (hgb : wr.grownBy w' row) (hr : ∀ i, row = some i → v.heap.size ≤ i) : Keep2 v w' g h := s.grown hgb hr
end
theorem coreP_len (cl : Int → Int → Int) (m : Nat) (f t : Int) : (coreP cl m f t).length ≤ m := by
  unfold coreP
  exact Nat.le_trans (List.length_filterMap_le _ _) (by rw [List.length_range]; exact Nat.le_refl m)
theorem keyP_len (cl : Int → Int → Int) (n : Nat) (l : List Ed) (t : Int) : (keyP cl n l t).length ≤ l.length := by
  unfold keyP
  exact List.length_filterMap_le _ _
/-- Columns of both that come back, and the classes. -/
def BetK (u v : World) (g h : Nat) (R : Nat → Nat) (l : List (Int × Int)) (e : Ending) (w' : World) : Prop := ∃ va vb, e = .returned (.tuple #[va, vb]) ∧ BetR v w' l va vb ∧ UfS u g h 128 R w' ∧ Keep2 v w' g h
def In31At (u v : World) (g h : Nat) (R : Nat → Nat) (f t : Int) (x y i : Value) (wr : World) : Prop :=
  ∃ (q : Nat) (A B : Option Addr) (c d : Nat), q ≤ 128 ∧ i = .int .i64 q ∧ x = .slice A (coreP (clI R) q f t).length c ∧ y = .slice B (coreP (clI R) q f t).length d ∧ Two v (coreP (clI R) q f t) A c B d wr ∧ UfS u g h 128 R wr ∧ Keep2 v wr g h
set_option maxHeartbeats 8000000 in
set_option maxRecDepth 100000 in
theorem incore31_any (f t : Int) (u v : World) (g h : Nat) (R : Nat → Nat) (s : UfS u g h 128 R v) :
    Calls Try.prog 56 #[.pointer (some ⟨g, 0, none⟩), .int .i64 f, .int .i64 t] v (BetK u v g h R (coreP (clI R) 128 f t)) := by
  have HS := Lib.hid s
  have HL : Hid (g < v.heap.size ∧ h < v.heap.size) := Lib.hid s.lt
  have HU : Hid (u.heap.size ≤ v.heap.size) := Lib.hid s.grew.size
  have HLn : Hid (∀ W, UfS u g h 128 R W → Calls Try.prog 78 #[.pointer (some ⟨g, 0, none⟩)] W fun e w' => e = .returned (.int .i64 128) ∧ w' = W) := Lib.hid fun W hW => uf_len u W g h 128 R hW
  have HC : Hid (∀ W (a k : Int), UfS u g h 128 R W → Calls Try.prog 76 #[.pointer (some ⟨g, 0, none⟩), .int .i64 a, .int .i64 k] W (ColK u W g h R (colF (clI R) a k))) := Lib.hid fun W a k hW => pcolumn_any a k u W g h R hW
  clear s
  go_enter Try.func56, Try.ntmps56
  go_wp2_with (go_at_call 78; (with_reducible refine (HLn.out _ HS.out).mono ?_); rintro e5 w5 ⟨rfl, hw5⟩; have hw5 := hw5.symm; subst hw5)
  go_loopw [6, 7, 13] (fun x y i wr => In31At u v g h R f t x y i wr) (fun _ _ i _ => 128 - (intOf i).toNat)
  case atStart => exact ⟨0, none, none, 0, 0, by omega, rfl, rfl, rfl, Two.nil v, HS.out, Keep2.refl _ _ _⟩
  case round =>
    obtain ⟨q, A, B, c, d, hq, rfl, rfl, rfl, ht, hs, hk⟩ := hrel
    have HT := Lib.hid ht
    have HS2 := Lib.hid hs
    have HK := Lib.hid hk
    have hln := coreP_len (clI R) q f t
    clear ht hs hk
    by_cases hlt : q < 128
    · have HP : Hid (0 ≤ colF (clI R) f q ∧ 0 ≤ colF (clI R) t q → coreP (clI R) (q + 1) f t = coreP (clI R) q f t ++ [(colF (clI R) f q, colF (clI R) t q)]) := Lib.hid fun h => coreP_put h
      have HQ : Hid (¬ (0 ≤ colF (clI R) f q ∧ 0 ≤ colF (clI R) t q) → coreP (clI R) (q + 1) f t = coreP (clI R) q f t) := Lib.hid fun h => coreP_skip h
      have HC1 : Hid (∀ W, UfS u g h 128 R W → Calls Try.prog 76 #[.pointer (some ⟨g, 0, none⟩), .int .i64 f, .int .i64 q] W (ColK u W g h R (colF (clI R) f q))) := Lib.hid fun W hW => HC.out W f q hW
      have HC2 : Hid (∀ W, UfS u g h 128 R W → Calls Try.prog 76 #[.pointer (some ⟨g, 0, none⟩), .int .i64 t, .int .i64 q] W (ColK u W g h R (colF (clI R) t q))) := Lib.hid fun W hW => HC.out W t q hW
      generalize coreP (clI R) q f t = l at *
      generalize colF (clI R) f q = a at *
      generalize colF (clI R) t q = b at *
      go_upto_region 5 with (first | (go_at_call 76; (with_reducible refine (HC1.out _ HS2.out).mono ?_); rintro e5 w5 ⟨rfl, hs5, hk5⟩; have HS5 := Lib.hid hs5; have HK5 := Lib.hid (HK.out.trans hk5); have HT5 := Lib.hid (HT.out.keep hk5 HL.out); clear hs5 hk5) | (go_at_call 76; (with_reducible refine (HC2.out _ HS5.out).mono ?_); rintro e6 w6 ⟨rfl, hs6, hk6⟩; have HS6 := Lib.hid hs6; have HK6 := Lib.hid (HK5.out.trans hk6); have HT6 := Lib.hid (HT5.out.keep hk6 HL.out); clear hs6 hk6))
      clear HC1 HC2 HLn HC HS HT5 HS5 HK5 HT HS2 HK
      by_cases hab : 0 ≤ a ∧ 0 ≤ b
      · have e1 : decide ((0 : Int) ≤ a) = true := decide_eq_true hab.1
        have e2 : decide ((0 : Int) ≤ b) = true := decide_eq_true hab.2
        have HL2 := Lib.hid (HP.out hab)
        clear HP HQ
        have hab1 := hab.1
        have hab2 := hab.2
        clear hab
        go_upto_region 7 with (at_builtin; refine wpList_appC rfl _ _ 30 3 1 rfl v.heap.size (.int .i64 0) 8 Try.underlying30 infoI rfl (by decide) (by decide) _ l.length (iV (lcP l)) rfl (HT6.out.on ((Grew.refl _).alloc _)).one _ 1 1 [.int .i64 a] rfl rfl (row_one _ _ _ _ rfl) (by simp [Value.oneCell']) (by omega) (by have := HK6.out.size; rw [World.size_alloc]; omega) ?_; intro A7 c7 w7 ho7 hg7 hor7; have HT7 := Lib.hid ((HT6.out.on ((Grew.refl _).alloc (.cells #[.int .i64 a] 3))).half ho7 hg7 hor7); have HS7 := Lib.hid ((HS6.out.on ((Grew.refl _).alloc (.cells #[.int .i64 a] 3))).grownT hg7 HL.out HU.out (own_base HT6.out.one)); have HK7 := Lib.hid ((HK6.out.on ((Grew.refl _).alloc (.cells #[.int .i64 a] 3))).grownT hg7 (own_base HT6.out.one)); clear ho7 hg7 hor7)
        go_wp2_with (at_builtin; refine wpList_appC rfl _ _ 30 3 1 rfl v.heap.size (.int .i64 0) 8 Try.underlying30 infoI rfl (by decide) (by decide) _ l.length (iV (rcP l)) rfl (HT7.out.on ((Grew.refl _).alloc _)).two _ 1 1 [.int .i64 b] rfl rfl (row_one _ _ _ _ rfl) (by simp [Value.oneCell']) (by omega) (by have := HK7.out.size; rw [World.size_alloc]; omega) ?_; intro A8 c8 w8 ho8 hg8 hor8; have HT8 := Lib.hid ((HT7.out.on ((Grew.refl _).alloc (.cells #[.int .i64 b] 3))).whole ho8 hg8 hor8); have HS8 := Lib.hid ((HS7.out.on ((Grew.refl _).alloc (.cells #[.int .i64 b] 3))).grownT hg8 HL.out HU.out (own_base HT7.out.two)); have HK8 := Lib.hid ((HK7.out.on ((Grew.refl _).alloc (.cells #[.int .i64 b] 3))).grownT hg8 (own_base HT7.out.two)); clear ho8 hg8 hor8)
        have hlen : (l ++ [(a, b)]).length = l.length + 1 := by simp
        exact ⟨⟨q + 1, A7, A8, c7, c8, by omega, by go_num, by rw [HL2.out, hlen], by rw [HL2.out, hlen], by rw [HL2.out]; exact HT8.out, HS8.out, HK8.out⟩, by simp only [intOf]; omega⟩
      · have HL2 := Lib.hid (HQ.out hab)
        clear HP HQ
        by_cases h1 : 0 ≤ a
        · have e1 : decide ((0 : Int) ≤ a) = true := decide_eq_true h1
          have e2 : decide ((0 : Int) ≤ b) = false := decide_eq_false fun h => hab ⟨h1, h⟩
          clear hab
          go_wp2_with fail
          exact ⟨⟨q + 1, A, B, c, d, by omega, by go_num, by rw [HL2.out], by rw [HL2.out], by rw [HL2.out]; exact HT6.out, HS6.out, HK6.out⟩, by simp only [intOf]; omega⟩
        · have e1 : decide ((0 : Int) ≤ a) = false := decide_eq_false h1
          clear hab
          go_wp2_with fail
          exact ⟨⟨q + 1, A, B, c, d, by omega, by go_num, by rw [HL2.out], by rw [HL2.out], by rw [HL2.out]; exact HT6.out, HS6.out, HK6.out⟩, by simp only [intOf]; omega⟩
    · obtain rfl : q = 128 := by omega
      have HR := Lib.hid HT.out.rows
      go_wp2
      go_ret2
      exact ⟨_, _, rfl, HR.out, HS2.out, HK.out⟩
end Go.Proofs.Ytoaciliojdaoaaa

/- Layer 31: the columns of a late table and one of the core, by the program. Condition: classes of a call's own. -/
namespace Go.Proofs.Ytoaciliojdaoaaa
open Go.RowKit
attribute [local go_sem] more_cell more_frozen more_more more_setCell more_of_drew more_of_drewN lt_more le_more past_cell past_cell2 past_frozen past_frozen2 past_setCell past_setCell2 mid_cell mid_frozen mid_setCell
attribute [local go_sem ↓] Go.wp_at_zero Go.wp_at_succ

theorem BetR.low {u v w : World} {l : List (Int × Int)} {va vb : Value} (h : BetR v w l va vb) (hu : u.heap.size ≤ v.heap.size) : BetR u w l va vb := by
  obtain ⟨A, k, B, j, e1, e2, h1, h2⟩ := h
  exact ⟨A, k, B, j, e1, e2, h1.low hu, h2.low hu⟩
def OlAt (u v : World) (g h : Nat) (R : Nat → Nat) (n : Nat) (t : Int) (l : List Ed) (x y i : Value) (wr : World) : Prop :=
  ∃ (q : Nat) (A B : Option Addr) (c d : Nat), q ≤ l.length ∧ i = .int .i64 q ∧ x = .slice A (keyP (clI R) n (l.take q) t).length c ∧ y = .slice B (keyP (clI R) n (l.take q) t).length d ∧ Two v (keyP (clI R) n (l.take q) t) A c B d wr ∧ UfS u g h 128 R wr ∧ Keep2 v wr g h
set_option maxHeartbeats 8000000 in
set_option maxRecDepth 100000 in
theorem oflate_any (t : Int) (u v : World) (g h : Nat) (R : Nat → Nat) (s : UfS u g h 128 R v) (mm cb nb n : Nat) (hc : Blok u cb 3 #[.int .i64 n]) (x : La) (K : Option Addr) (kk : Nat) (S : Option Addr) (ss : Nat) (T : Option Addr) (tt : Nat) (hx : x.keys.length ≤ 3000) (hk : EdsR (PRow u) K x.keys) :
    Calls Try.prog 55 #[seV mm cb nb, .pointer (some ⟨g, 0, none⟩), laV x K kk S ss T tt, .int .i64 t] v (BetK u v g h R (keyP (clI R) n x.keys t)) := by
  obtain ⟨v1, hv1⟩ : ∃ v1, v1 = (v.alloc (.cells #[.int .i64 mm, .func (.func 51) #[] #[.pointer (some ⟨cb, 0, none⟩)], .func (.func 52) #[] #[.pointer (some ⟨cb, 0, none⟩), .pointer (some ⟨nb, 0, none⟩)]] 77)).alloc (.cells #[.int .i64 x.table, .int .i64 x.join, .slice K x.keys.length kk, .slice S x.scan.length ss, .slice T x.rest.length tt] 72) := ⟨_, rfl⟩
  have HGv : Hid (Grew v v1) := Lib.hid (by rw [hv1]; exact ((Grew.refl v).alloc _).alloc _)
  have HBs : Hid (Blok v1 v.heap.size 77 #[.int .i64 mm, .func (.func 51) #[] #[.pointer (some ⟨cb, 0, none⟩)], .func (.func 52) #[] #[.pointer (some ⟨cb, 0, none⟩), .pointer (some ⟨nb, 0, none⟩)]]) := Lib.hid (by rw [hv1]; exact (Blok.new _ _ _ _ rfl).alloc _)
  have HBl : Hid (Blok v1 (v.heap.size + 1) 72 #[.int .i64 x.table, .int .i64 x.join, .slice K x.keys.length kk, .slice S x.scan.length ss, .slice T x.rest.length tt]) := Lib.hid (by rw [hv1]; exact Blok.new _ _ _ _ (by simp))
  have HS := Lib.hid (s.on HGv.out)
  have HL : Hid (g < v1.heap.size ∧ h < v1.heap.size) := Lib.hid HS.out.lt
  have HN : Hid (v.heap.size ≠ g ∧ v.heap.size ≠ h) := Lib.hid (by have := s.lt; omega)
  have HU : Hid (u.heap.size ≤ v1.heap.size) := Lib.hid HS.out.grew.size
  have HC : Hid (∀ W (k : Int), UfS u g h 128 R W → Calls Try.prog 76 #[.pointer (some ⟨g, 0, none⟩), .int .i64 t, .int .i64 k] W (ColK u W g h R (colF (clI R) t k))) := Lib.hid fun W k hW => pcolumn_any t k u W g h R hW
  have HIn : Hid (∀ (a : Int) W, Grew u W → Gives Try.prog 51 #[.int .i64 a, .pointer (some ⟨cb, 0, none⟩)] W (.bool (decide (0 ≤ a ∧ a < n)))) := Lib.hid fun a W hW => inc_any a n cb W (hc.grew hW)
  have HE : Hid (∀ W, Grew u W → EdsR (PRow W) K x.keys) := Lib.hid fun W hW => hk.grew hW
  clear s hc hk
  unfold seV laV
  generalize x.keys = l at *
  go_enter Try.func55, Try.ntmps55
  go_upto_region 1 with fail
  rw [← hv1]
  clear hv1
  obtain ⟨_, y0, y1, y2, y3, y4, _⟩ := la_cells HBl.out
  have hlt0 := HBl.out.lt
  generalize v.heap.size + 1 = bl at *
  generalize v.heap.size = bs at *
  go_wp2_with fail
  clear y0 y1 y2 y3 y4 hlt0
  go_loopw [8, 9, 16] (fun x y i wr => OlAt u v1 g h R n t l x y i wr) (fun _ _ i _ => l.length - (intOf i).toNat)
  case atStart => exact ⟨0, none, none, 0, 0, by omega, rfl, by rw [List.take_zero]; rfl, by rw [List.take_zero]; rfl, by rw [List.take_zero]; exact Two.nil v1, HS.out, Keep2.refl _ _ _⟩
  case round =>
    obtain ⟨q, A, B, c, d, hq, rfl, rfl, rfl, ht, hs, hk⟩ := hrel
    have HT := Lib.hid ht
    have HS2 := Lib.hid hs
    have HK := Lib.hid hk
    have hln := keyP_len (clI R) n (l.take q) t
    rw [List.length_take] at hln
    clear ht hs hk
    by_cases hlt : q < l.length
    · have HP : Hid ((0 ≤ l[q].a ∧ l[q].a < n) ∧ 0 ≤ colF (clI R) t (clI R l[q].a l[q].ac) → keyP (clI R) n (l.take (q + 1)) t = keyP (clI R) n (l.take q) t ++ [(l[q].bc, colF (clI R) t (clI R l[q].a l[q].ac))]) := Lib.hid fun h => keyP_put hlt h
      have HQ : Hid (¬ ((0 ≤ l[q].a ∧ l[q].a < n) ∧ 0 ≤ colF (clI R) t (clI R l[q].a l[q].ac)) → keyP (clI R) n (l.take (q + 1)) t = keyP (clI R) n (l.take q) t) := Lib.hid fun h => keyP_skip hlt h
      obtain ⟨b, o, rfl, hb0, a0, a1, a2, a3⟩ := edsR_at (HE.out _ HS2.out.grew) hlt
      have HBs2 := Lib.hid (HBs.out.keepB HK.out HN.out.1 HN.out.2)
      generalize keyP (clI R) n (l.take q) t = m at *
      generalize l[q] = y at *
      have hln2 : m.length ≤ 3000 := by omega
      clear hln
      have HI1 : Hid (∀ W, Grew u W → Gives Try.prog 51 #[.int .i64 y.a, .pointer (some ⟨cb, 0, none⟩)] W (.bool (decide (0 ≤ y.a ∧ y.a < n)))) := Lib.hid fun W hW => HIn.out y.a W hW
      go_upto_region 4 with fail
      have HBe : Hid (Blok (wr.alloc (.cells #[.int .i64 y.a, .int .i64 y.ac, .int .i64 y.b, .int .i64 y.bc] 68)) wr.heap.size 68 #[.int .i64 y.a, .int .i64 y.ac, .int .i64 y.b, .int .i64 y.bc]) := Lib.hid (Blok.new _ _ _ _ rfl)
      have HGe : Hid (Grew wr (wr.alloc (.cells #[.int .i64 y.a, .int .i64 y.ac, .int .i64 y.b, .int .i64 y.bc] 68))) := Lib.hid ((Grew.refl wr).alloc _)
      have HNe : Hid (wr.heap.size ≠ g ∧ wr.heap.size ≠ h) := Lib.hid (by have := HS2.out.lt; omega)
      clear hb0 a0 a1 a2 a3
      generalize (wr.alloc (.cells #[.int .i64 y.a, .int .i64 y.ac, .int .i64 y.b, .int .i64 y.bc] 68)) = W4 at *
      generalize wr.heap.size = be at *
      have HT4 := Lib.hid (HT.out.on HGe.out)
      have HS4 := Lib.hid (HS2.out.on HGe.out)
      have HK4 := Lib.hid (HK.out.on HGe.out)
      obtain ⟨sl, s0, s1, s2, _, _, _⟩ := b3_in (HBs2.out.grew HGe.out)
      obtain ⟨r0, d0, d1, d2, d3, _, _, _, _⟩ := ed_in HBe.out
      clear HT HS2 HK HBs2 HIn HE
      by_cases hin : 0 ≤ y.a ∧ y.a < n
      · rw [decide_eq_true hin] at HI1
        have HC1 : Hid (∀ W, Gives Try.prog 75 #[.int .i64 y.a, .int .i64 y.ac] W (.int .i64 (columnI y.a y.ac))) := Lib.hid fun W => column_any _ _ W
        have HF1 : Hid (∀ W, UfS u g h 128 R W → Calls Try.prog 77 #[.pointer (some ⟨g, 0, none⟩), .int .i64 (columnI y.a y.ac)] W fun e w' => e = .returned (.int .i64 (clI R y.a y.ac)) ∧ UfS u g h 128 R w' ∧ Keep2 W w' g h) := Lib.hid fun W hW => uf_find _ _ u W g h 128 R hW rfl
        have HC2 : Hid (∀ W, UfS u g h 128 R W → Calls Try.prog 76 #[.pointer (some ⟨g, 0, none⟩), .int .i64 t, .int .i64 (clI R y.a y.ac)] W (ColK u W g h R (colF (clI R) t (clI R y.a y.ac)))) := Lib.hid fun W hW => HC.out W _ hW
        have HP2 : Hid (0 ≤ colF (clI R) t (clI R y.a y.ac) → keyP (clI R) n (l.take (q + 1)) t = m ++ [(y.bc, colF (clI R) t (clI R y.a y.ac))]) := Lib.hid fun hh => HP.out ⟨hin, hh⟩
        have HQ2 : Hid (¬ 0 ≤ colF (clI R) t (clI R y.a y.ac) → keyP (clI R) n (l.take (q + 1)) t = m) := Lib.hid fun hh => HQ.out fun h2 => hh h2.2
        generalize colF (clI R) t (clI R y.a y.ac) = b at *
        generalize clI R y.a y.ac = kl at *
        generalize columnI y.a y.ac = cy at *
        clear hin HP HQ HC
        go_upto_region 5 with (go_at_call 51; (with_reducible refine (HI1.out _ HS4.out.grew).grows.mono ?_); rintro e5 w5 ⟨rfl, hg5⟩; have HS5 := Lib.hid (HS4.out.on hg5); have HT5 := Lib.hid (HT4.out.on hg5); have HK5 := Lib.hid (HK4.out.on hg5); have HB5 := Lib.hid (HBe.out.grew hg5); clear hg5)
        clear HT4 HS4 HK4 r0 d0 d1 d2 d3 sl s0 s1 s2 HI1 HBe
        obtain ⟨r0, d0, d1, d2, d3, _, _, _, _⟩ := ed_in HB5.out
        go_upto_region 6 with (first | (go_at_call 75; (with_reducible refine (HC1.out _).grows.mono ?_); rintro e6 w6 ⟨rfl, hg6⟩; have HS6 := Lib.hid (HS5.out.on hg6); have HT6 := Lib.hid (HT5.out.on hg6); have HK6 := Lib.hid (HK5.out.on hg6); have HB6 := Lib.hid (HB5.out.grew hg6); clear hg6) | (go_at_call 77; (with_reducible refine (HF1.out _ HS6.out).mono ?_); rintro e7 w7 ⟨rfl, hs7, hk7⟩; have HS7 := Lib.hid hs7; have HT7 := Lib.hid (HT6.out.keep hk7 HL.out); have HK7 := Lib.hid (HK6.out.trans hk7); have HB7 := Lib.hid (HB6.out.keepB hk7 HNe.out.1 HNe.out.2); clear hs7 hk7) | (go_at_call 76; (with_reducible refine (HC2.out _ HS7.out).mono ?_); rintro e8 w8 ⟨rfl, hs8, hk8⟩; have HS8 := Lib.hid hs8; have HT8 := Lib.hid (HT7.out.keep hk8 HL.out); have HK8 := Lib.hid (HK7.out.trans hk8); have HB8 := Lib.hid (HB7.out.keepB hk8 HNe.out.1 HNe.out.2); clear hs8 hk8))
        clear HC1 HF1 HC2 HS5 HT5 HK5 HB5 HS6 HT6 HK6 HB6 HS7 HT7 HK7 HB7 r0 d0 d1 d2 d3
        obtain ⟨r0, d0, d1, d2, d3, _, _, _, _⟩ := ed_in HB8.out
        by_cases hb : 0 ≤ b
        · have e2 : decide ((0 : Int) ≤ b) = true := decide_eq_true hb
          have HL2 := Lib.hid (HP2.out hb)
          clear HP2 HQ2
          go_upto_region 8 with (at_builtin; refine wpList_appC rfl _ _ 30 3 1 rfl v1.heap.size (.int .i64 0) 8 Try.underlying30 infoI rfl (by decide) (by decide) _ m.length (iV (lcP m)) rfl (HT8.out.on ((Grew.refl _).alloc _)).one _ 1 1 [.int .i64 y.bc] rfl rfl (row_one _ _ _ _ rfl) (by simp [Value.oneCell']) (by omega) (by have := HK8.out.size; rw [World.size_alloc]; omega) ?_; intro A9 c9 w9 ho9 hg9 hor9; have HT9 := Lib.hid ((HT8.out.on ((Grew.refl _).alloc (.cells #[.int .i64 y.bc] 3))).half ho9 hg9 hor9); have HS9 := Lib.hid ((HS8.out.on ((Grew.refl _).alloc (.cells #[.int .i64 y.bc] 3))).grownT hg9 HL.out HU.out (own_base HT8.out.one)); have HK9 := Lib.hid ((HK8.out.on ((Grew.refl _).alloc (.cells #[.int .i64 y.bc] 3))).grownT hg9 (own_base HT8.out.one)); clear ho9 hg9 hor9)
          clear r0 d0 d1 d2 d3
          go_wp2_with (at_builtin; refine wpList_appC rfl _ _ 30 3 1 rfl v1.heap.size (.int .i64 0) 8 Try.underlying30 infoI rfl (by decide) (by decide) _ m.length (iV (rcP m)) rfl (HT9.out.on ((Grew.refl _).alloc _)).two _ 1 1 [.int .i64 b] rfl rfl (row_one _ _ _ _ rfl) (by simp [Value.oneCell']) (by omega) (by have := HK9.out.size; rw [World.size_alloc]; omega) ?_; intro A10 c10 w10 ho10 hg10 hor10; have HT10 := Lib.hid ((HT9.out.on ((Grew.refl _).alloc (.cells #[.int .i64 b] 3))).whole ho10 hg10 hor10); have HS10 := Lib.hid ((HS9.out.on ((Grew.refl _).alloc (.cells #[.int .i64 b] 3))).grownT hg10 HL.out HU.out (own_base HT9.out.two)); have HK10 := Lib.hid ((HK9.out.on ((Grew.refl _).alloc (.cells #[.int .i64 b] 3))).grownT hg10 (own_base HT9.out.two)); clear ho10 hg10 hor10)
          have hlen : (m ++ [(y.bc, b)]).length = m.length + 1 := by simp
          exact ⟨⟨q + 1, A9, A10, c9, c10, by omega, by go_num, by rw [HL2.out, hlen], by rw [HL2.out, hlen], by rw [HL2.out]; exact HT10.out, HS10.out, HK10.out⟩, by simp only [intOf]; omega⟩
        · have e2 : decide ((0 : Int) ≤ b) = false := decide_eq_false hb
          have HL2 := Lib.hid (HQ2.out (by omega))
          clear HP2 HQ2
          go_wp2_with fail
          exact ⟨⟨q + 1, A, B, c, d, by omega, by go_num, by rw [HL2.out], by rw [HL2.out], by rw [HL2.out]; exact HT8.out, HS8.out, HK8.out⟩, by simp only [intOf]; omega⟩
      · rw [decide_eq_false hin] at HI1
        have HL2 := Lib.hid (HQ.out fun h2 => hin h2.1)
        clear hin HP HQ HC
        go_wp2_with (go_at_call 51; (with_reducible refine (HI1.out _ HS4.out.grew).grows.mono ?_); rintro e5 w5 ⟨rfl, hg5⟩; have HS5 := Lib.hid (HS4.out.on hg5); have HT5 := Lib.hid (HT4.out.on hg5); have HK5 := Lib.hid (HK4.out.on hg5); clear hg5)
        exact ⟨⟨q + 1, A, B, c, d, by omega, by go_num, by rw [HL2.out], by rw [HL2.out], by rw [HL2.out]; exact HT5.out, HS5.out, HK5.out⟩, by simp only [intOf]; omega⟩
    · obtain rfl : q = l.length := by omega
      rw [List.take_length] at HT
      have HR := Lib.hid (HT.out.rows.low HGv.out.size)
      have HKv : Hid (Keep2 v wr g h) := Lib.hid (((Keep2.refl v g h).on HGv.out).trans HK.out)
      rw [List.take_length]
      go_wp2
      go_ret2
      exact ⟨_, _, rfl, HR.out, HS2.out, HKv.out⟩
end Go.Proofs.Ytoaciliojdaoaaa

/- Layer 31: the columns of two tables that must be the same, by the program. Condition: conditions that lie in memory that is there; two tables that are there. -/
namespace Go.Proofs.Ytoaciliojdaoaaa
open Go.RowKit
attribute [local go_sem] more_cell more_frozen more_more more_setCell more_of_drew more_of_drewN lt_more le_more past_cell past_cell2 past_frozen past_frozen2 past_setCell past_setCell2 mid_cell mid_frozen mid_setCell
attribute [local go_sem ↓] Go.wp_at_zero Go.wp_at_succ

theorem BetR.swap {u w : World} {l : List (Int × Int)} {va vb : Value} (h : BetR u w l va vb) : BetR u w (l.map fun p => (p.2, p.1)) vb va := by
  obtain ⟨A, k, B, j, rfl, rfl, h1, h2⟩ := h
  have e1 : lcP (l.map fun p => (p.2, p.1)) = rcP l := by simp [lcP, rcP]
  have e2 : rcP (l.map fun p => (p.2, p.1)) = lcP l := by simp [lcP, rcP]
  exact ⟨B, j, A, k, by rw [e1], by rw [e2], by rw [e1]; exact h2, by rw [e2]; exact h1⟩
def BetF (w : World) (l : List (Int × Int)) (e : Ending) (w' : World) : Prop := ∃ va vb, e = .returned (.tuple #[va, vb]) ∧ Grew w w' ∧ BetR w w' l va vb
theorem getD_at {l : List La} {i n : Nat} (hi : i < l.length) : l.getD (((n + i : Nat) : Int) - (n : Int)).toNat default = l[i] := by
  have e : (((n + i : Nat) : Int) - (n : Int)).toNat = i := by omega
  rw [e]
  simp [List.getD, hi]
set_option maxHeartbeats 16000000 in
set_option maxRecDepth 100000 in
theorem between31_any (core : Int) (es : List Ed) (l : List La) (f t : Nat) (A : Option Addr) (n k : Nat) (B : Option Addr) (j : Nat) (C : Option Addr) (p c : Nat) (D : Option Addr) (d : Nat) (E : Option Addr) (q e : Nat) (w : World) (hn : n ≤ 100000) (hl : l.length ≤ 100000) (hes : es.length ≤ 3000) (hks : ∀ x ∈ l, x.keys.length ≤ 3000) (hf : f < n + l.length) (ht : t < n + l.length)
    (hr : LasR (PRow w) D l) (he : EdsR (PRow w) B es) :
    Calls Try.prog 31 #[.agg (nqC core A n k B es.length j C p c D l.length d E q e), .int .i64 f, .int .i64 t] w (BetF w (betP (clI (clsE es)) n l f t)) := by
  have HSe := Lib.hid (fun W => seats_any core A n k B es.length j C p c D l.length d E q e W hn hl)
  have HCl : Hid (∀ W, Grew w W → Calls Try.prog 54 #[.agg (nqC core A n k B es.length j C p c D l.length d E q e)] W (ClsF W es)) := Lib.hid fun W hW => classes_any core es A n k B j C p c D l.length d E q e W (he.grew hW) hes
  have HR := Lib.hid hr
  have HKs := Lib.hid hks
  clear hr he hks
  unfold ClsF at HCl
  generalize clsE es = R at *
  generalize es.length = ne at *
  clear hes
  obtain ⟨fin, hfin⟩ : ∃ fin, betP (clI R) n l f t = fin := ⟨_, rfl⟩
  rw [hfin]
  have HFi := Lib.hid hfin
  clear hfin
  obtain ⟨W0, hW0⟩ : ∃ W0, W0 = w.alloc (.cells (nqC core A n k B ne j C p c D l.length d E q e) 37) := ⟨_, rfl⟩
  have HG0 : Hid (Grew w W0) := Lib.hid (by rw [hW0]; exact (Grew.refl w).alloc _)
  have HX0 : Hid (Blok W0 w.heap.size 37 (nqC core A n k B ne j C p c D l.length d E q e)) := Lib.hid (by rw [hW0]; exact Blok.new _ _ _ _ rfl)
  unfold nqC at *
  by_cases h1 : f < n
  · by_cases h2 : t < n
    · by_cases h3 : f = t
      · have hF : fin = [] := by rw [← HFi.out, betP, if_neg (by omega), if_neg (by omega), if_neg (by omega)]
        subst hF
        have e9 : ((f : Int) != (t : Int)) = false := by simp; omega
        clear HFi HKs h3
        have HIf : Hid (∀ (cb : Nat) W, Blok W cb 3 #[.int .i64 n] → Gives Try.prog 51 #[.int .i64 ((f : Nat) : Int), .pointer (some ⟨cb, 0, none⟩)] W (.bool true)) := Lib.hid fun cb W hW => by
          have := inc_any ((f : Nat) : Int) n cb W hW
          rwa [decide_eq_true (show (0 : Int) ≤ ((f : Nat) : Int) ∧ ((f : Nat) : Int) < (n : Int) by omega)] at this
        have HIt : Hid (∀ (cb : Nat) W, Blok W cb 3 #[.int .i64 n] → Gives Try.prog 51 #[.int .i64 ((t : Nat) : Int), .pointer (some ⟨cb, 0, none⟩)] W (.bool true)) := Lib.hid fun cb W hW => by
          have := inc_any ((t : Nat) : Int) n cb W hW
          rwa [decide_eq_true (show (0 : Int) ≤ ((t : Nat) : Int) ∧ ((t : Nat) : Int) < (n : Int) by omega)] at this
        go_enter Try.func31, Try.ntmps31
        go_upto_region 1 with fail
        rw [← hW0]
        clear hW0
        obtain ⟨xl, x0, x1, x2, x3, x4, x5⟩ := nm_in HX0.out
        go_upto_region 2 with (go_at_call 29; (with_reducible refine (HSe.out _).mono ?_); rintro e2 w2 ⟨cb, nb, rfl, hg2, hc2, hb2⟩; have HG2 := Lib.hid hg2; have HC2 := Lib.hid hc2; have HB2 := Lib.hid hb2; clear hg2 hc2 hb2; unfold seV)
        clear xl x0 x1 x2 x3 x4 x5
        obtain ⟨w3, hw3⟩ : ∃ w3, w3 = w2.alloc (.cells #[.int .i64 ((n : Int) + (l.length : Int)), .func (.func 51) #[] #[.pointer (some ⟨cb, 0, none⟩)], .func (.func 52) #[] #[.pointer (some ⟨cb, 0, none⟩), .pointer (some ⟨nb, 0, none⟩)]] 77) := ⟨_, rfl⟩
        have HS3 : Hid (Blok w3 w2.heap.size 77 #[.int .i64 ((n : Int) + (l.length : Int)), .func (.func 51) #[] #[.pointer (some ⟨cb, 0, none⟩)], .func (.func 52) #[] #[.pointer (some ⟨cb, 0, none⟩), .pointer (some ⟨nb, 0, none⟩)]]) := Lib.hid (by rw [hw3]; exact Blok.new _ _ _ _ rfl)
        have HG03 : Hid (Grew W0 w3) := Lib.hid (by rw [hw3]; exact HG2.out.alloc _)
        have HG3 : Hid (Grew w w3) := Lib.hid (HG0.out.trans HG03.out)
        have HC3 : Hid (Blok w3 cb 3 #[.int .i64 n]) := Lib.hid (by rw [hw3]; exact HC2.out.alloc _)
        have HB3 : Hid (Blok w3 nb 37 #[.int .i64 core, .slice A n k, .slice B ne j, .slice C p c, .slice D l.length d, .slice E q e]) := Lib.hid (by rw [hw3]; exact HB2.out.alloc _)
        rw [← hw3]
        clear hw3 HC2 HB2 HG2
        generalize w2.heap.size = bs at *
        obtain ⟨sum, hsum⟩ : ∃ s : Nat, ((n : Int) + (l.length : Int)) = (s : Int) := ⟨n + l.length, by omega⟩
        rw [hsum] at HS3 ⊢
        clear hsum
        obtain ⟨xl, x0, x1, x2, x3, x4, x5⟩ := nm_in (HX0.out.grew HG03.out)
        go_upto_region 3 with (go_at_call 54; (with_reducible refine (HCl.out _ HG3.out).mono ?_); rintro e4 w4 ⟨g, h, rfl, hs4⟩; have HS4 := Lib.hid hs4; clear hs4)
        clear xl x0 x1 x2 x3 x4 x5 HCl HSe
        obtain ⟨yl, y0, y1, y2, _, _, _⟩ := b3_in (HS3.out.grew HS4.out.grew)
        go_upto_region 4 with (go_at_call 52; (with_reducible refine (late_none f n cb nb h1 _ (HC3.out.grew HS4.out.grew)).grows.mono ?_); rintro e5 w5 ⟨rfl, hg5⟩; have HZa := Lib.hid (HS4.out.on hg5); clear hg5; unfold laZ)
        have HUa : Hid (UfS w3 g h 128 R (w5.alloc (.cells #[.int .i64 0, .int .i64 0, .slice none 0 0, .slice none 0 0, .slice none 0 0] 72))) := Lib.hid (HZa.out.on ((Grew.refl _).alloc _))
        clear HZa yl y0 y1 y2
        generalize (w5.alloc (.cells #[.int .i64 0, .int .i64 0, .slice none 0 0, .slice none 0 0, .slice none 0 0] 72)) = w6a at *
        generalize w5.heap.size = lba at *
        obtain ⟨yl, y0, y1, y2, _, _, _⟩ := b3_in (HS3.out.grew HUa.out.grew)
        go_upto_region 6 with fail
        go_upto_region 7 with (go_at_call 52; (with_reducible refine (late_none t n cb nb h2 _ (HC3.out.grew HUa.out.grew)).grows.mono ?_); rintro e5 w5 ⟨rfl, hg5⟩; have HZb := Lib.hid (HUa.out.on hg5); clear hg5; unfold laZ)
        have HUb : Hid (UfS w3 g h 128 R (w5.alloc (.cells #[.int .i64 0, .int .i64 0, .slice none 0 0, .slice none 0 0, .slice none 0 0] 72))) := Lib.hid (HZb.out.on ((Grew.refl _).alloc _))
        clear HZb yl y0 y1 y2
        generalize (w5.alloc (.cells #[.int .i64 0, .int .i64 0, .slice none 0 0, .slice none 0 0, .slice none 0 0] 72)) = w6b at *
        generalize w5.heap.size = lbb at *
        obtain ⟨yl, y0, y1, y2, _, _, _⟩ := b3_in (HS3.out.grew HUb.out.grew)
        go_upto_region 10 with fail
        go_wp2_with (first | (go_at_call 51; (with_reducible refine (HIf.out _ _ (HC3.out.grew HUb.out.grew)).grows.mono ?_); rintro e7 w7 ⟨rfl, hg7⟩; have HS7 := Lib.hid (HUb.out.on hg7); clear hg7; clear yl y0 y1 y2; obtain ⟨yl, y0, y1, y2, _, _, _⟩ := b3_in (HS3.out.grew HS7.out.grew)) | (go_at_call 51; (with_reducible refine (HIt.out _ _ (HC3.out.grew HS7.out.grew)).grows.mono ?_); rintro e8 w8 ⟨rfl, hg8⟩; have HS8 := Lib.hid (HS7.out.on hg8); clear hg8))
        have HE := HS8
        have HR9 := Lib.hid (BetR.nil w w8)
        go_ret2
        exact ⟨_, _, rfl, HG3.out.trans HE.out.grew, HR9.out⟩
      · have hF : fin = coreP (clI R) 128 f t := by rw [← HFi.out, betP, if_neg (by omega), if_neg (by omega), if_pos ⟨by omega, by omega, by omega⟩]
        subst hF
        have e9 : ((f : Int) != (t : Int)) = true := by rw [bne_iff_ne]; omega
        clear HFi HKs h3
        have HIf : Hid (∀ (cb : Nat) W, Blok W cb 3 #[.int .i64 n] → Gives Try.prog 51 #[.int .i64 ((f : Nat) : Int), .pointer (some ⟨cb, 0, none⟩)] W (.bool true)) := Lib.hid fun cb W hW => by
          have := inc_any ((f : Nat) : Int) n cb W hW
          rwa [decide_eq_true (show (0 : Int) ≤ ((f : Nat) : Int) ∧ ((f : Nat) : Int) < (n : Int) by omega)] at this
        have HIt : Hid (∀ (cb : Nat) W, Blok W cb 3 #[.int .i64 n] → Gives Try.prog 51 #[.int .i64 ((t : Nat) : Int), .pointer (some ⟨cb, 0, none⟩)] W (.bool true)) := Lib.hid fun cb W hW => by
          have := inc_any ((t : Nat) : Int) n cb W hW
          rwa [decide_eq_true (show (0 : Int) ≤ ((t : Nat) : Int) ∧ ((t : Nat) : Int) < (n : Int) by omega)] at this
        go_enter Try.func31, Try.ntmps31
        go_upto_region 1 with fail
        rw [← hW0]
        clear hW0
        obtain ⟨xl, x0, x1, x2, x3, x4, x5⟩ := nm_in HX0.out
        go_upto_region 2 with (go_at_call 29; (with_reducible refine (HSe.out _).mono ?_); rintro e2 w2 ⟨cb, nb, rfl, hg2, hc2, hb2⟩; have HG2 := Lib.hid hg2; have HC2 := Lib.hid hc2; have HB2 := Lib.hid hb2; clear hg2 hc2 hb2; unfold seV)
        clear xl x0 x1 x2 x3 x4 x5
        obtain ⟨w3, hw3⟩ : ∃ w3, w3 = w2.alloc (.cells #[.int .i64 ((n : Int) + (l.length : Int)), .func (.func 51) #[] #[.pointer (some ⟨cb, 0, none⟩)], .func (.func 52) #[] #[.pointer (some ⟨cb, 0, none⟩), .pointer (some ⟨nb, 0, none⟩)]] 77) := ⟨_, rfl⟩
        have HS3 : Hid (Blok w3 w2.heap.size 77 #[.int .i64 ((n : Int) + (l.length : Int)), .func (.func 51) #[] #[.pointer (some ⟨cb, 0, none⟩)], .func (.func 52) #[] #[.pointer (some ⟨cb, 0, none⟩), .pointer (some ⟨nb, 0, none⟩)]]) := Lib.hid (by rw [hw3]; exact Blok.new _ _ _ _ rfl)
        have HG03 : Hid (Grew W0 w3) := Lib.hid (by rw [hw3]; exact HG2.out.alloc _)
        have HG3 : Hid (Grew w w3) := Lib.hid (HG0.out.trans HG03.out)
        have HC3 : Hid (Blok w3 cb 3 #[.int .i64 n]) := Lib.hid (by rw [hw3]; exact HC2.out.alloc _)
        have HB3 : Hid (Blok w3 nb 37 #[.int .i64 core, .slice A n k, .slice B ne j, .slice C p c, .slice D l.length d, .slice E q e]) := Lib.hid (by rw [hw3]; exact HB2.out.alloc _)
        rw [← hw3]
        clear hw3 HC2 HB2 HG2
        generalize w2.heap.size = bs at *
        obtain ⟨sum, hsum⟩ : ∃ s : Nat, ((n : Int) + (l.length : Int)) = (s : Int) := ⟨n + l.length, by omega⟩
        rw [hsum] at HS3 ⊢
        clear hsum
        obtain ⟨xl, x0, x1, x2, x3, x4, x5⟩ := nm_in (HX0.out.grew HG03.out)
        go_upto_region 3 with (go_at_call 54; (with_reducible refine (HCl.out _ HG3.out).mono ?_); rintro e4 w4 ⟨g, h, rfl, hs4⟩; have HS4 := Lib.hid hs4; clear hs4)
        clear xl x0 x1 x2 x3 x4 x5 HCl HSe
        obtain ⟨yl, y0, y1, y2, _, _, _⟩ := b3_in (HS3.out.grew HS4.out.grew)
        go_upto_region 4 with (go_at_call 52; (with_reducible refine (late_none f n cb nb h1 _ (HC3.out.grew HS4.out.grew)).grows.mono ?_); rintro e5 w5 ⟨rfl, hg5⟩; have HZa := Lib.hid (HS4.out.on hg5); clear hg5; unfold laZ)
        have HUa : Hid (UfS w3 g h 128 R (w5.alloc (.cells #[.int .i64 0, .int .i64 0, .slice none 0 0, .slice none 0 0, .slice none 0 0] 72))) := Lib.hid (HZa.out.on ((Grew.refl _).alloc _))
        clear HZa yl y0 y1 y2
        generalize (w5.alloc (.cells #[.int .i64 0, .int .i64 0, .slice none 0 0, .slice none 0 0, .slice none 0 0] 72)) = w6a at *
        generalize w5.heap.size = lba at *
        obtain ⟨yl, y0, y1, y2, _, _, _⟩ := b3_in (HS3.out.grew HUa.out.grew)
        go_upto_region 6 with fail
        go_upto_region 7 with (go_at_call 52; (with_reducible refine (late_none t n cb nb h2 _ (HC3.out.grew HUa.out.grew)).grows.mono ?_); rintro e5 w5 ⟨rfl, hg5⟩; have HZb := Lib.hid (HUa.out.on hg5); clear hg5; unfold laZ)
        have HUb : Hid (UfS w3 g h 128 R (w5.alloc (.cells #[.int .i64 0, .int .i64 0, .slice none 0 0, .slice none 0 0, .slice none 0 0] 72))) := Lib.hid (HZb.out.on ((Grew.refl _).alloc _))
        clear HZb yl y0 y1 y2
        generalize (w5.alloc (.cells #[.int .i64 0, .int .i64 0, .slice none 0 0, .slice none 0 0, .slice none 0 0] 72)) = w6b at *
        generalize w5.heap.size = lbb at *
        obtain ⟨yl, y0, y1, y2, _, _, _⟩ := b3_in (HS3.out.grew HUb.out.grew)
        go_upto_region 10 with fail
        have HIc : Hid (∀ W, UfS w3 g h 128 R W → Calls Try.prog 56 #[.pointer (some ⟨g, 0, none⟩), .int .i64 f, .int .i64 t] W (BetK w3 W g h R (coreP (clI R) 128 f t))) := Lib.hid fun W hW => incore31_any f t w3 W g h R hW
        go_wp2_with (first | (go_at_call 51; (with_reducible refine (HIf.out _ _ (HC3.out.grew HUb.out.grew)).grows.mono ?_); rintro e7 w7 ⟨rfl, hg7⟩; have HS7 := Lib.hid (HUb.out.on hg7); clear hg7; clear yl y0 y1 y2; obtain ⟨yl, y0, y1, y2, _, _, _⟩ := b3_in (HS3.out.grew HS7.out.grew)) | (go_at_call 51; (with_reducible refine (HIt.out _ _ (HC3.out.grew HS7.out.grew)).grows.mono ?_); rintro e8 w8 ⟨rfl, hg8⟩; have HS8 := Lib.hid (HS7.out.on hg8); clear hg8) | (go_at_call 56; (with_reducible refine (HIc.out _ HS8.out).mono ?_); rintro e9 w9 ⟨va, vb, rfl, hb9, hs9, _⟩; have HE := Lib.hid hs9; have HR9 := Lib.hid (hb9.low (u := w) (Nat.le_trans HG3.out.size HS8.out.grew.size)); clear hb9 hs9))
        go_ret2
        exact ⟨_, _, rfl, HG3.out.trans HE.out.grew, HR9.out⟩
    · obtain ⟨i, rfl⟩ : ∃ i, t = n + i := ⟨t - n, by omega⟩
      have hi : i < l.length := by omega
      have hF : fin = (keyP (clI R) n l[i].keys f).map fun p => (p.2, p.1) := by rw [← HFi.out, betP, if_neg (by omega), if_pos ⟨⟨by omega, by omega⟩, by omega⟩, getD_at hi]
      subst hF
      have hkx := HKs.out l[i] (List.getElem_mem hi)
      clear HFi HKs
      have HIf : Hid (∀ (cb : Nat) W, Blok W cb 3 #[.int .i64 n] → Gives Try.prog 51 #[.int .i64 ((f : Nat) : Int), .pointer (some ⟨cb, 0, none⟩)] W (.bool true)) := Lib.hid fun cb W hW => by
        have := inc_any ((f : Nat) : Int) n cb W hW
        rwa [decide_eq_true (show (0 : Int) ≤ ((f : Nat) : Int) ∧ ((f : Nat) : Int) < (n : Int) by omega)] at this
      have HLSi : Hid (∀ cb nb W, Grew w W → Blok W cb 3 #[.int .i64 n] → Blok W nb 37 #[.int .i64 core, .slice A n k, .slice B ne j, .slice C p c, .slice D l.length d, .slice E q e] → ∃ K k S s T r, EdsR (PRow W) K l[i].keys ∧ ∀ W', Grew W W' → Gives Try.prog 52 #[.int .i64 ((n + i : Nat) : Int), .pointer (some ⟨cb, 0, none⟩), .pointer (some ⟨nb, 0, none⟩)] W' (.tuple #[laV l[i] K k S s T r, .bool true])) := Lib.hid fun cb nb W hW h1 h2 => late_some i n cb nb l hi hl core A k B ne j C p c D d E q e W h1 h2 (HR.out.grew hW)
      generalize ((n + i : Nat) : Int) = z at *
      go_enter Try.func31, Try.ntmps31
      go_upto_region 1 with fail
      rw [← hW0]
      clear hW0
      obtain ⟨xl, x0, x1, x2, x3, x4, x5⟩ := nm_in HX0.out
      go_upto_region 2 with (go_at_call 29; (with_reducible refine (HSe.out _).mono ?_); rintro e2 w2 ⟨cb, nb, rfl, hg2, hc2, hb2⟩; have HG2 := Lib.hid hg2; have HC2 := Lib.hid hc2; have HB2 := Lib.hid hb2; clear hg2 hc2 hb2; unfold seV)
      clear xl x0 x1 x2 x3 x4 x5
      obtain ⟨w3, hw3⟩ : ∃ w3, w3 = w2.alloc (.cells #[.int .i64 ((n : Int) + (l.length : Int)), .func (.func 51) #[] #[.pointer (some ⟨cb, 0, none⟩)], .func (.func 52) #[] #[.pointer (some ⟨cb, 0, none⟩), .pointer (some ⟨nb, 0, none⟩)]] 77) := ⟨_, rfl⟩
      have HS3 : Hid (Blok w3 w2.heap.size 77 #[.int .i64 ((n : Int) + (l.length : Int)), .func (.func 51) #[] #[.pointer (some ⟨cb, 0, none⟩)], .func (.func 52) #[] #[.pointer (some ⟨cb, 0, none⟩), .pointer (some ⟨nb, 0, none⟩)]]) := Lib.hid (by rw [hw3]; exact Blok.new _ _ _ _ rfl)
      have HG03 : Hid (Grew W0 w3) := Lib.hid (by rw [hw3]; exact HG2.out.alloc _)
      have HG3 : Hid (Grew w w3) := Lib.hid (HG0.out.trans HG03.out)
      have HC3 : Hid (Blok w3 cb 3 #[.int .i64 n]) := Lib.hid (by rw [hw3]; exact HC2.out.alloc _)
      have HB3 : Hid (Blok w3 nb 37 #[.int .i64 core, .slice A n k, .slice B ne j, .slice C p c, .slice D l.length d, .slice E q e]) := Lib.hid (by rw [hw3]; exact HB2.out.alloc _)
      rw [← hw3]
      clear hw3 HC2 HB2 HG2
      generalize w2.heap.size = bs at *
      obtain ⟨sum, hsum⟩ : ∃ s : Nat, ((n : Int) + (l.length : Int)) = (s : Int) := ⟨n + l.length, by omega⟩
      rw [hsum] at HS3 ⊢
      clear hsum
      obtain ⟨xl, x0, x1, x2, x3, x4, x5⟩ := nm_in (HX0.out.grew HG03.out)
      go_upto_region 3 with (go_at_call 54; (with_reducible refine (HCl.out _ HG3.out).mono ?_); rintro e4 w4 ⟨g, h, rfl, hs4⟩; have HS4 := Lib.hid hs4; clear hs4)
      clear xl x0 x1 x2 x3 x4 x5 HCl HSe
      obtain ⟨yl, y0, y1, y2, _, _, _⟩ := b3_in (HS3.out.grew HS4.out.grew)
      go_upto_region 4 with (go_at_call 52; (with_reducible refine (late_none f n cb nb h1 _ (HC3.out.grew HS4.out.grew)).grows.mono ?_); rintro e5 w5 ⟨rfl, hg5⟩; have HZa := Lib.hid (HS4.out.on hg5); clear hg5; unfold laZ)
      have HUa : Hid (UfS w3 g h 128 R (w5.alloc (.cells #[.int .i64 0, .int .i64 0, .slice none 0 0, .slice none 0 0, .slice none 0 0] 72))) := Lib.hid (HZa.out.on ((Grew.refl _).alloc _))
      clear HZa yl y0 y1 y2
      generalize (w5.alloc (.cells #[.int .i64 0, .int .i64 0, .slice none 0 0, .slice none 0 0, .slice none 0 0] 72)) = w6a at *
      generalize w5.heap.size = lba at *
      obtain ⟨yl, y0, y1, y2, _, _, _⟩ := b3_in (HS3.out.grew HUa.out.grew)
      go_upto_region 6 with fail
      obtain ⟨Kb, kkb, Sb, sb, Tb, rb, hkb, hLb⟩ := HLSi.out cb nb w3 HG3.out HC3.out HB3.out
      have HLb := Lib.hid hLb
      have HKb := Lib.hid hkb
      clear hLb hkb
      unfold laV at HLb
      go_upto_region 7 with (go_at_call 52; (with_reducible refine (HLb.out _ HUa.out.grew).grows.mono ?_); rintro e5 w5 ⟨rfl, hg5⟩; have HZb := Lib.hid (HUa.out.on hg5); clear hg5)
      have HUb : Hid (UfS w3 g h 128 R (w5.alloc (.cells #[.int .i64 l[i].table, .int .i64 l[i].join, .slice Kb l[i].keys.length kkb, .slice Sb l[i].scan.length sb, .slice Tb l[i].rest.length rb] 72))) := Lib.hid (HZb.out.on ((Grew.refl _).alloc _))
      have HBb : Hid (Blok (w5.alloc (.cells #[.int .i64 l[i].table, .int .i64 l[i].join, .slice Kb l[i].keys.length kkb, .slice Sb l[i].scan.length sb, .slice Tb l[i].rest.length rb] 72)) w5.heap.size 72 #[.int .i64 l[i].table, .int .i64 l[i].join, .slice Kb l[i].keys.length kkb, .slice Sb l[i].scan.length sb, .slice Tb l[i].rest.length rb]) := Lib.hid (Blok.new _ _ _ _ rfl)
      have HNb : Hid (w5.heap.size ≠ g ∧ w5.heap.size ≠ h) := Lib.hid (by have := HZb.out.lt; omega)
      clear HZb HLb yl y0 y1 y2
      generalize (w5.alloc (.cells #[.int .i64 l[i].table, .int .i64 l[i].join, .slice Kb l[i].keys.length kkb, .slice Sb l[i].scan.length sb, .slice Tb l[i].rest.length rb] 72)) = w6b at *
      generalize w5.heap.size = lbb at *
      obtain ⟨yl, y0, y1, y2, _, _, _⟩ := b3_in (HS3.out.grew HUb.out.grew)
      go_upto_region 8 with (go_at_call 51; (with_reducible refine (HIf.out _ _ (HC3.out.grew HUb.out.grew)).grows.mono ?_); rintro e7 w7 ⟨rfl, hg7⟩; have HS7 := Lib.hid (HUb.out.on hg7); have HGSN := Lib.hid hg7; clear hg7)
      clear yl y0 y1 y2
      obtain ⟨yl, y0, y1, y2, _, _, _⟩ := b3_in (HS3.out.grew HS7.out.grew)
      obtain ⟨zl, z0, z1, z2, z3, z4, _⟩ := la_cells (HBb.out.grew HGSN.out)
      have HOf := Lib.hid (oflate_any (f : Int) w3 w7 g h R HS7.out sum cb nb n HC3.out l[i] Kb kkb Sb sb Tb rb hkx HKb.out)
      unfold seV laV at HOf
      go_wp2_with (go_at_call 55; (with_reducible refine HOf.out.mono ?_); rintro e8 w8 ⟨va, vb, rfl, hb8, hs8, _⟩; have HE := Lib.hid hs8; have HR9 := Lib.hid (hb8.low (u := w) (Nat.le_trans HG3.out.size HS7.out.grew.size)).swap; clear hb8 hs8)
      go_ret2
      exact ⟨_, _, rfl, HG3.out.trans HE.out.grew, HR9.out⟩
  · by_cases h2 : t < n
    · obtain ⟨i, rfl⟩ : ∃ i, f = n + i := ⟨f - n, by omega⟩
      have hi : i < l.length := by omega
      have hF : fin = keyP (clI R) n l[i].keys t := by rw [← HFi.out, betP, if_pos ⟨⟨by omega, by omega⟩, by omega⟩, getD_at hi]
      subst hF
      have hkx := HKs.out l[i] (List.getElem_mem hi)
      clear HFi HKs
      have HIt : Hid (∀ (cb : Nat) W, Blok W cb 3 #[.int .i64 n] → Gives Try.prog 51 #[.int .i64 ((t : Nat) : Int), .pointer (some ⟨cb, 0, none⟩)] W (.bool true)) := Lib.hid fun cb W hW => by
        have := inc_any ((t : Nat) : Int) n cb W hW
        rwa [decide_eq_true (show (0 : Int) ≤ ((t : Nat) : Int) ∧ ((t : Nat) : Int) < (n : Int) by omega)] at this
      have HLSi : Hid (∀ cb nb W, Grew w W → Blok W cb 3 #[.int .i64 n] → Blok W nb 37 #[.int .i64 core, .slice A n k, .slice B ne j, .slice C p c, .slice D l.length d, .slice E q e] → ∃ K k S s T r, EdsR (PRow W) K l[i].keys ∧ ∀ W', Grew W W' → Gives Try.prog 52 #[.int .i64 ((n + i : Nat) : Int), .pointer (some ⟨cb, 0, none⟩), .pointer (some ⟨nb, 0, none⟩)] W' (.tuple #[laV l[i] K k S s T r, .bool true])) := Lib.hid fun cb nb W hW h1 h2 => late_some i n cb nb l hi hl core A k B ne j C p c D d E q e W h1 h2 (HR.out.grew hW)
      generalize ((n + i : Nat) : Int) = z at *
      go_enter Try.func31, Try.ntmps31
      go_upto_region 1 with fail
      rw [← hW0]
      clear hW0
      obtain ⟨xl, x0, x1, x2, x3, x4, x5⟩ := nm_in HX0.out
      go_upto_region 2 with (go_at_call 29; (with_reducible refine (HSe.out _).mono ?_); rintro e2 w2 ⟨cb, nb, rfl, hg2, hc2, hb2⟩; have HG2 := Lib.hid hg2; have HC2 := Lib.hid hc2; have HB2 := Lib.hid hb2; clear hg2 hc2 hb2; unfold seV)
      clear xl x0 x1 x2 x3 x4 x5
      obtain ⟨w3, hw3⟩ : ∃ w3, w3 = w2.alloc (.cells #[.int .i64 ((n : Int) + (l.length : Int)), .func (.func 51) #[] #[.pointer (some ⟨cb, 0, none⟩)], .func (.func 52) #[] #[.pointer (some ⟨cb, 0, none⟩), .pointer (some ⟨nb, 0, none⟩)]] 77) := ⟨_, rfl⟩
      have HS3 : Hid (Blok w3 w2.heap.size 77 #[.int .i64 ((n : Int) + (l.length : Int)), .func (.func 51) #[] #[.pointer (some ⟨cb, 0, none⟩)], .func (.func 52) #[] #[.pointer (some ⟨cb, 0, none⟩), .pointer (some ⟨nb, 0, none⟩)]]) := Lib.hid (by rw [hw3]; exact Blok.new _ _ _ _ rfl)
      have HG03 : Hid (Grew W0 w3) := Lib.hid (by rw [hw3]; exact HG2.out.alloc _)
      have HG3 : Hid (Grew w w3) := Lib.hid (HG0.out.trans HG03.out)
      have HC3 : Hid (Blok w3 cb 3 #[.int .i64 n]) := Lib.hid (by rw [hw3]; exact HC2.out.alloc _)
      have HB3 : Hid (Blok w3 nb 37 #[.int .i64 core, .slice A n k, .slice B ne j, .slice C p c, .slice D l.length d, .slice E q e]) := Lib.hid (by rw [hw3]; exact HB2.out.alloc _)
      rw [← hw3]
      clear hw3 HC2 HB2 HG2
      generalize w2.heap.size = bs at *
      obtain ⟨sum, hsum⟩ : ∃ s : Nat, ((n : Int) + (l.length : Int)) = (s : Int) := ⟨n + l.length, by omega⟩
      rw [hsum] at HS3 ⊢
      clear hsum
      obtain ⟨xl, x0, x1, x2, x3, x4, x5⟩ := nm_in (HX0.out.grew HG03.out)
      go_upto_region 3 with (go_at_call 54; (with_reducible refine (HCl.out _ HG3.out).mono ?_); rintro e4 w4 ⟨g, h, rfl, hs4⟩; have HS4 := Lib.hid hs4; clear hs4)
      clear xl x0 x1 x2 x3 x4 x5 HCl HSe
      obtain ⟨yl, y0, y1, y2, _, _, _⟩ := b3_in (HS3.out.grew HS4.out.grew)
      obtain ⟨Ka, kka, Sa, sa, Ta, ra, hka, hLa⟩ := HLSi.out cb nb w3 HG3.out HC3.out HB3.out
      have HLa := Lib.hid hLa
      have HKa := Lib.hid hka
      clear hLa hka
      unfold laV at HLa
      go_upto_region 4 with (go_at_call 52; (with_reducible refine (HLa.out _ HS4.out.grew).grows.mono ?_); rintro e5 w5 ⟨rfl, hg5⟩; have HZa := Lib.hid (HS4.out.on hg5); clear hg5)
      have HUa : Hid (UfS w3 g h 128 R (w5.alloc (.cells #[.int .i64 l[i].table, .int .i64 l[i].join, .slice Ka l[i].keys.length kka, .slice Sa l[i].scan.length sa, .slice Ta l[i].rest.length ra] 72))) := Lib.hid (HZa.out.on ((Grew.refl _).alloc _))
      have HBa : Hid (Blok (w5.alloc (.cells #[.int .i64 l[i].table, .int .i64 l[i].join, .slice Ka l[i].keys.length kka, .slice Sa l[i].scan.length sa, .slice Ta l[i].rest.length ra] 72)) w5.heap.size 72 #[.int .i64 l[i].table, .int .i64 l[i].join, .slice Ka l[i].keys.length kka, .slice Sa l[i].scan.length sa, .slice Ta l[i].rest.length ra]) := Lib.hid (Blok.new _ _ _ _ rfl)
      have HNa : Hid (w5.heap.size ≠ g ∧ w5.heap.size ≠ h) := Lib.hid (by have := HZa.out.lt; omega)
      clear HZa HLa yl y0 y1 y2
      generalize (w5.alloc (.cells #[.int .i64 l[i].table, .int .i64 l[i].join, .slice Ka l[i].keys.length kka, .slice Sa l[i].scan.length sa, .slice Ta l[i].rest.length ra] 72)) = w6a at *
      generalize w5.heap.size = lba at *
      obtain ⟨yl, y0, y1, y2, _, _, _⟩ := b3_in (HS3.out.grew HUa.out.grew)
      go_upto_region 5 with (go_at_call 51; (with_reducible refine (HIt.out _ _ (HC3.out.grew HUa.out.grew)).grows.mono ?_); rintro e7 w7 ⟨rfl, hg7⟩; have HS7 := Lib.hid (HUa.out.on hg7); have HGSN := Lib.hid hg7; clear hg7)
      clear yl y0 y1 y2
      obtain ⟨yl, y0, y1, y2, _, _, _⟩ := b3_in (HS3.out.grew HS7.out.grew)
      obtain ⟨zl, z0, z1, z2, z3, z4, _⟩ := la_cells (HBa.out.grew HGSN.out)
      have HOf := Lib.hid (oflate_any (t : Int) w3 w7 g h R HS7.out sum cb nb n HC3.out l[i] Ka kka Sa sa Ta ra hkx HKa.out)
      unfold seV laV at HOf
      go_wp2_with (go_at_call 55; (with_reducible refine HOf.out.mono ?_); rintro e8 w8 ⟨va, vb, rfl, hb8, hs8, _⟩; have HE := Lib.hid hs8; have HR9 := Lib.hid (hb8.low (u := w) (Nat.le_trans HG3.out.size HS7.out.grew.size)); clear hb8 hs8)
      go_ret2
      exact ⟨_, _, rfl, HG3.out.trans HE.out.grew, HR9.out⟩
    · obtain ⟨i, rfl⟩ : ∃ i, f = n + i := ⟨f - n, by omega⟩
      obtain ⟨m, rfl⟩ : ∃ m, t = n + m := ⟨t - n, by omega⟩
      have hi : i < l.length := by omega
      have hm : m < l.length := by omega
      have hF : fin = [] := by rw [← HFi.out, betP, if_neg (by omega), if_neg (by omega), if_neg (by omega)]
      subst hF
      clear HFi HKs
      have HIf : Hid (∀ (cb : Nat) W, Blok W cb 3 #[.int .i64 n] → Gives Try.prog 51 #[.int .i64 ((n + i : Nat) : Int), .pointer (some ⟨cb, 0, none⟩)] W (.bool false)) := Lib.hid fun cb W hW => by
        have := inc_any ((n + i : Nat) : Int) n cb W hW
        rwa [decide_eq_false (show ¬ ((0 : Int) ≤ ((n + i : Nat) : Int) ∧ ((n + i : Nat) : Int) < (n : Int)) by omega)] at this
      have HIt : Hid (∀ (cb : Nat) W, Blok W cb 3 #[.int .i64 n] → Gives Try.prog 51 #[.int .i64 ((n + m : Nat) : Int), .pointer (some ⟨cb, 0, none⟩)] W (.bool false)) := Lib.hid fun cb W hW => by
        have := inc_any ((n + m : Nat) : Int) n cb W hW
        rwa [decide_eq_false (show ¬ ((0 : Int) ≤ ((n + m : Nat) : Int) ∧ ((n + m : Nat) : Int) < (n : Int)) by omega)] at this
      have HLSi : Hid (∀ cb nb W, Grew w W → Blok W cb 3 #[.int .i64 n] → Blok W nb 37 #[.int .i64 core, .slice A n k, .slice B ne j, .slice C p c, .slice D l.length d, .slice E q e] → ∃ K k S s T r, EdsR (PRow W) K l[i].keys ∧ ∀ W', Grew W W' → Gives Try.prog 52 #[.int .i64 ((n + i : Nat) : Int), .pointer (some ⟨cb, 0, none⟩), .pointer (some ⟨nb, 0, none⟩)] W' (.tuple #[laV l[i] K k S s T r, .bool true])) := Lib.hid fun cb nb W hW h1 h2 => late_some i n cb nb l hi hl core A k B ne j C p c D d E q e W h1 h2 (HR.out.grew hW)
      generalize ((n + i : Nat) : Int) = z at *
      have HLSm : Hid (∀ cb nb W, Grew w W → Blok W cb 3 #[.int .i64 n] → Blok W nb 37 #[.int .i64 core, .slice A n k, .slice B ne j, .slice C p c, .slice D l.length d, .slice E q e] → ∃ K k S s T r, EdsR (PRow W) K l[m].keys ∧ ∀ W', Grew W W' → Gives Try.prog 52 #[.int .i64 ((n + m : Nat) : Int), .pointer (some ⟨cb, 0, none⟩), .pointer (some ⟨nb, 0, none⟩)] W' (.tuple #[laV l[m] K k S s T r, .bool true])) := Lib.hid fun cb nb W hW h1 h2 => late_some m n cb nb l hm hl core A k B ne j C p c D d E q e W h1 h2 (HR.out.grew hW)
      generalize ((n + m : Nat) : Int) = y at *
      go_enter Try.func31, Try.ntmps31
      go_upto_region 1 with fail
      rw [← hW0]
      clear hW0
      obtain ⟨xl, x0, x1, x2, x3, x4, x5⟩ := nm_in HX0.out
      go_upto_region 2 with (go_at_call 29; (with_reducible refine (HSe.out _).mono ?_); rintro e2 w2 ⟨cb, nb, rfl, hg2, hc2, hb2⟩; have HG2 := Lib.hid hg2; have HC2 := Lib.hid hc2; have HB2 := Lib.hid hb2; clear hg2 hc2 hb2; unfold seV)
      clear xl x0 x1 x2 x3 x4 x5
      obtain ⟨w3, hw3⟩ : ∃ w3, w3 = w2.alloc (.cells #[.int .i64 ((n : Int) + (l.length : Int)), .func (.func 51) #[] #[.pointer (some ⟨cb, 0, none⟩)], .func (.func 52) #[] #[.pointer (some ⟨cb, 0, none⟩), .pointer (some ⟨nb, 0, none⟩)]] 77) := ⟨_, rfl⟩
      have HS3 : Hid (Blok w3 w2.heap.size 77 #[.int .i64 ((n : Int) + (l.length : Int)), .func (.func 51) #[] #[.pointer (some ⟨cb, 0, none⟩)], .func (.func 52) #[] #[.pointer (some ⟨cb, 0, none⟩), .pointer (some ⟨nb, 0, none⟩)]]) := Lib.hid (by rw [hw3]; exact Blok.new _ _ _ _ rfl)
      have HG03 : Hid (Grew W0 w3) := Lib.hid (by rw [hw3]; exact HG2.out.alloc _)
      have HG3 : Hid (Grew w w3) := Lib.hid (HG0.out.trans HG03.out)
      have HC3 : Hid (Blok w3 cb 3 #[.int .i64 n]) := Lib.hid (by rw [hw3]; exact HC2.out.alloc _)
      have HB3 : Hid (Blok w3 nb 37 #[.int .i64 core, .slice A n k, .slice B ne j, .slice C p c, .slice D l.length d, .slice E q e]) := Lib.hid (by rw [hw3]; exact HB2.out.alloc _)
      rw [← hw3]
      clear hw3 HC2 HB2 HG2
      generalize w2.heap.size = bs at *
      obtain ⟨sum, hsum⟩ : ∃ s : Nat, ((n : Int) + (l.length : Int)) = (s : Int) := ⟨n + l.length, by omega⟩
      rw [hsum] at HS3 ⊢
      clear hsum
      obtain ⟨xl, x0, x1, x2, x3, x4, x5⟩ := nm_in (HX0.out.grew HG03.out)
      go_upto_region 3 with (go_at_call 54; (with_reducible refine (HCl.out _ HG3.out).mono ?_); rintro e4 w4 ⟨g, h, rfl, hs4⟩; have HS4 := Lib.hid hs4; clear hs4)
      clear xl x0 x1 x2 x3 x4 x5 HCl HSe
      obtain ⟨yl, y0, y1, y2, _, _, _⟩ := b3_in (HS3.out.grew HS4.out.grew)
      obtain ⟨Ka, kka, Sa, sa, Ta, ra, hka, hLa⟩ := HLSi.out cb nb w3 HG3.out HC3.out HB3.out
      have HLa := Lib.hid hLa
      have HKa := Lib.hid hka
      clear hLa hka
      unfold laV at HLa
      go_upto_region 4 with (go_at_call 52; (with_reducible refine (HLa.out _ HS4.out.grew).grows.mono ?_); rintro e5 w5 ⟨rfl, hg5⟩; have HZa := Lib.hid (HS4.out.on hg5); clear hg5)
      have HUa : Hid (UfS w3 g h 128 R (w5.alloc (.cells #[.int .i64 l[i].table, .int .i64 l[i].join, .slice Ka l[i].keys.length kka, .slice Sa l[i].scan.length sa, .slice Ta l[i].rest.length ra] 72))) := Lib.hid (HZa.out.on ((Grew.refl _).alloc _))
      have HBa : Hid (Blok (w5.alloc (.cells #[.int .i64 l[i].table, .int .i64 l[i].join, .slice Ka l[i].keys.length kka, .slice Sa l[i].scan.length sa, .slice Ta l[i].rest.length ra] 72)) w5.heap.size 72 #[.int .i64 l[i].table, .int .i64 l[i].join, .slice Ka l[i].keys.length kka, .slice Sa l[i].scan.length sa, .slice Ta l[i].rest.length ra]) := Lib.hid (Blok.new _ _ _ _ rfl)
      have HNa : Hid (w5.heap.size ≠ g ∧ w5.heap.size ≠ h) := Lib.hid (by have := HZa.out.lt; omega)
      clear HZa HLa yl y0 y1 y2
      generalize (w5.alloc (.cells #[.int .i64 l[i].table, .int .i64 l[i].join, .slice Ka l[i].keys.length kka, .slice Sa l[i].scan.length sa, .slice Ta l[i].rest.length ra] 72)) = w6a at *
      generalize w5.heap.size = lba at *
      obtain ⟨yl, y0, y1, y2, _, _, _⟩ := b3_in (HS3.out.grew HUa.out.grew)
      go_upto_region 6 with (go_at_call 51; (with_reducible refine (HIt.out _ _ (HC3.out.grew HUa.out.grew)).grows.mono ?_); rintro e7 w7 ⟨rfl, hg7⟩; have HS7 := Lib.hid (HUa.out.on hg7); have HGSN := Lib.hid hg7; clear hg7)
      clear yl y0 y1 y2
      obtain ⟨yl, y0, y1, y2, _, _, _⟩ := b3_in (HS3.out.grew HS7.out.grew)
      obtain ⟨Kb, kkb, Sb, sb, Tb, rb, hkb, hLb⟩ := HLSm.out cb nb w3 HG3.out HC3.out HB3.out
      have HLb := Lib.hid hLb
      have HKb := Lib.hid hkb
      clear hLb hkb
      unfold laV at HLb
      go_upto_region 7 with (go_at_call 52; (with_reducible refine (HLb.out _ HS7.out.grew).grows.mono ?_); rintro e5 w5 ⟨rfl, hg5⟩; have HZb := Lib.hid (HS7.out.on hg5); clear hg5)
      have HUb : Hid (UfS w3 g h 128 R (w5.alloc (.cells #[.int .i64 l[m].table, .int .i64 l[m].join, .slice Kb l[m].keys.length kkb, .slice Sb l[m].scan.length sb, .slice Tb l[m].rest.length rb] 72))) := Lib.hid (HZb.out.on ((Grew.refl _).alloc _))
      have HBb : Hid (Blok (w5.alloc (.cells #[.int .i64 l[m].table, .int .i64 l[m].join, .slice Kb l[m].keys.length kkb, .slice Sb l[m].scan.length sb, .slice Tb l[m].rest.length rb] 72)) w5.heap.size 72 #[.int .i64 l[m].table, .int .i64 l[m].join, .slice Kb l[m].keys.length kkb, .slice Sb l[m].scan.length sb, .slice Tb l[m].rest.length rb]) := Lib.hid (Blok.new _ _ _ _ rfl)
      have HNb : Hid (w5.heap.size ≠ g ∧ w5.heap.size ≠ h) := Lib.hid (by have := HZb.out.lt; omega)
      clear HZb HLb yl y0 y1 y2
      generalize (w5.alloc (.cells #[.int .i64 l[m].table, .int .i64 l[m].join, .slice Kb l[m].keys.length kkb, .slice Sb l[m].scan.length sb, .slice Tb l[m].rest.length rb] 72)) = w6b at *
      generalize w5.heap.size = lbb at *
      obtain ⟨yl, y0, y1, y2, _, _, _⟩ := b3_in (HS3.out.grew HUb.out.grew)
      go_upto_region 10 with (go_at_call 51; (with_reducible refine (HIf.out _ _ (HC3.out.grew HUb.out.grew)).grows.mono ?_); rintro e7 w8 ⟨rfl, hg7⟩; have HS8 := Lib.hid (HUb.out.on hg7); have HGSN := Lib.hid hg7; clear hg7)
      clear yl y0 y1 y2
      obtain ⟨yl, y0, y1, y2, _, _, _⟩ := b3_in (HS3.out.grew HS8.out.grew)
      go_wp2_with (go_at_call 51; (with_reducible refine (HIf.out _ _ (HC3.out.grew HS8.out.grew)).grows.mono ?_); rintro e7 w9 ⟨rfl, hg7⟩; have HE := Lib.hid (HS8.out.on hg7); have HGSN := Lib.hid hg7; clear hg7)
      have HR9 := Lib.hid (BetR.nil w w9)
      go_ret2
      exact ⟨_, _, rfl, HG3.out.trans HE.out.grew, HR9.out⟩
end Go.Proofs.Ytoaciliojdaoaaa

namespace Go.Proofs.Ytoaciliojdaoaaa
open Go.RowKit
attribute [local go_sem] more_cell more_frozen more_more more_setCell more_of_drew more_of_drewN lt_more le_more past_cell past_cell2 past_frozen past_frozen2 past_setCell past_setCell2 mid_cell mid_frozen mid_setCell
attribute [local go_sem ↓] Go.wp_at_zero Go.wp_at_succ

theorem plFld (x y z : Value) (w : World) : Sem.run Try.prog (Instr.field 77 (.agg #[x, y, z]) 0) w = .ok x w := by kernel_rfl
attribute [local go_sem] plFld
section
variable {cl : Int → Int → Int} {core : Nat} {late : List La} {order : List Int} {f t : Int}
theorem flB_low (h : rankI core (jsI late) order t < 0) : flB cl core late order f t = none := by unfold flB; rw [if_pos (Or.inl (Or.inl h))]
theorem flB_drv (h : order.head? = some f) : flB cl core late order f t = none := by unfold flB; rw [if_pos (Or.inl (Or.inr (Or.inl h)))]
theorem flB_rank (h : rankI core (jsI late) order f ≤ rankI core (jsI late) order t) : flB cl core late order f t = none := by unfold flB; rw [if_pos (Or.inl (Or.inr (Or.inr h)))]
theorem flB_bet (h : betP cl core late f t = []) : flB cl core late order f t = none := by unfold flB; rw [if_pos (Or.inr h)]
theorem flB_put (h1 : ¬ rankI core (jsI late) order t < 0) (h2 : ¬ order.head? = some f) (h3 : ¬ rankI core (jsI late) order f ≤ rankI core (jsI late) order t) (h4 : ¬ betP cl core late f t = []) : flB cl core late order f t = some ⟨f, t, betP cl core late f t⟩ := by
  unfold flB
  rw [if_neg]
  rintro ((h | h | h) | h)
  · exact h1 h
  · exact h2 h
  · exact h3 h
  · exact h4 h
theorem flsT_len (m : Nat) : (flsT cl core late order t m).length ≤ m := by
  unfold flsT
  exact Nat.le_trans (List.length_filterMap_le _ _) (by rw [List.length_range]; exact Nat.le_refl m)
theorem flsI_len (m : Nat) : (flsI cl core late order m).length ≤ m * (core + late.length) := by
  induction m with
  | zero => simp [flsI]
  | succ m ih =>
    rw [flsI_step, List.length_append, Nat.succ_mul]
    have := flsT_len (cl := cl) (core := core) (late := late) (order := order) (t := (m : Int)) (core + late.length)
    omega
end
/-- The filters up to one. -/
def flL (cl : Int → Int → Int) (core : Nat) (late : List La) (order : List Int) (q m : Nat) : List Fv := (flsI cl core late order q ++ flsT cl core late order q m).map fvF
section
variable {cl : Int → Int → Int} {core : Nat} {late : List La} {order : List Int} {q m : Nat}
theorem flL_skip (h : flB cl core late order m q = none) : flL cl core late order q (m + 1) = flL cl core late order q m := by
  unfold flL
  rw [flsT_step, h]
  simp
theorem flL_put {x : Fl} (h : flB cl core late order m q = some x) : flL cl core late order q (m + 1) = flL cl core late order q m ++ [fvF x] := by
  unfold flL
  rw [flsT_step, h]
  simp
theorem flL_zero : flL cl core late order q 0 = (flsI cl core late order q).map fvF := by simp [flL, flsT]
theorem flL_full : flL cl core late order q (core + late.length) = (flsI cl core late order (q + 1)).map fvF := by rw [flsI_step]; rfl
theorem flL_len (hq : q ≤ 1000) (hm : m ≤ 1000) (hM : core + late.length ≤ 1000) : (flL cl core late order q m).length ≤ 1001000 := by
  unfold flL
  rw [List.length_map, List.length_append]
  have h1 := flsI_len (cl := cl) (core := core) (late := late) (order := order) q
  have h2 := flsT_len (cl := cl) (core := core) (late := late) (order := order) (t := (q : Int)) m
  have h3 : q * (core + late.length) ≤ 1000 * 1000 := Nat.mul_le_mul hq hM
  omega
end
def AlO (u : World) (cl : Int → Int → Int) (n : Nat) (l : List La) (order : List Int) (M : Nat) (v i : Value) (wr : World) : Prop := ∃ (q : Nat) (A : Option Addr) (c : Nat) (css : List (List Value)), q ≤ M ∧ i = .int .i64 q ∧ v = .slice A (flL cl n l order q 0).length c ∧ GatF u (flL cl n l order q 0) A c css wr
def AlN (u : World) (cl : Int → Int → Int) (n : Nat) (l : List La) (order : List Int) (M q : Nat) (v i : Value) (wr : World) : Prop := ∃ (m : Nat) (A : Option Addr) (c : Nat) (css : List (List Value)), m ≤ M ∧ i = .int .i64 m ∧ v = .slice A (flL cl n l order q m).length c ∧ GatF u (flL cl n l order q m) A c css wr
set_option maxHeartbeats 16000000 in
set_option maxRecDepth 100000 in
theorem pall_any (core : Int) (es : List Ed) (l : List La) (order : List Int) (S : Option Addr) (ks : Nat) (A : Option Addr) (n k : Nat) (B : Option Addr) (j : Nat) (C : Option Addr) (p c : Nat) (D : Option Addr) (d : Nat) (E : Option Addr) (qn en : Nat) (w : World) (hM : n + l.length ≤ 1000) (hes : es.length ≤ 3000) (hks : ∀ x ∈ l, x.keys.length ≤ 3000) (ho : order.length ≤ 1000000)
    (hr : LasR (PRow w) D l) (he : EdsR (PRow w) B es) (hs : Row w S (iV order)) :
    Calls Try.prog 9 #[.agg (nqC core A n k B es.length j C p c D l.length d E qn en), .slice S order.length ks] w (FlsF w ((allI (clI (clsE es)) n l order).map fvF)) := by
  have HSe := Lib.hid (fun W => seats_any core A n k B es.length j C p c D l.length d E qn en W (by omega) (by omega))
  have HRk : Hid (∀ (t : Nat) W, t < n + l.length → Grew w W → Gives Try.prog 30 #[.agg (nqC core A n k B es.length j C p c D l.length d E qn en), .slice S order.length ks, .int .i64 t] W (.int .i64 (rankI n (jsI l) order t))) := Lib.hid fun t W h1 h2 => prank_any core l order S ks t A n k B es.length j C p c D d E qn en W (by omega) (by omega) ho h1 (hr.grew h2) (hs.grew h2)
  have HBt : Hid (∀ (f t : Nat) W, f < n + l.length → t < n + l.length → Grew w W → Calls Try.prog 31 #[.agg (nqC core A n k B es.length j C p c D l.length d E qn en), .int .i64 f, .int .i64 t] W (BetF W (betP (clI (clsE es)) n l f t))) := Lib.hid fun f t W h1 h2 h3 => between31_any core es l f t A n k B j C p c D d E qn en W (by omega) (by omega) hes hks h1 h2 (hr.grew h3) (he.grew h3)
  have HRs := Lib.hid hs
  clear hr he hs hks hes
  generalize es.length = ne at *
  generalize clI (clsE es) = cl at *
  obtain ⟨ol, hol⟩ : ∃ ol, order.length = ol := ⟨_, rfl⟩
  rw [hol] at HRk ho ⊢
  have HOl := Lib.hid hol
  clear hol
  obtain ⟨W0, hW0⟩ : ∃ W0, W0 = w.alloc (.cells (nqC core A n k B ne j C p c D l.length d E qn en) 37) := ⟨_, rfl⟩
  have HG0 : Hid (Grew w W0) := Lib.hid (by rw [hW0]; exact (Grew.refl w).alloc _)
  have HX0 : Hid (Blok W0 w.heap.size 37 (nqC core A n k B ne j C p c D l.length d E qn en)) := Lib.hid (by rw [hW0]; exact Blok.new _ _ _ _ rfl)
  unfold nqC at *
  unfold SeF seV at HSe
  obtain ⟨M, hMe⟩ : ∃ M, n + l.length = M := ⟨_, rfl⟩
  have HAl : Hid (allI cl n l order = flsI cl n l order M) := Lib.hid (by rw [← hMe]; rfl)
  rw [HAl.out]
  have HFu : Hid (∀ q, flL cl n l order q M = flL cl n l order (q + 1) 0) := Lib.hid fun q => by rw [← hMe, flL_zero]; exact flL_full
  have HLn : Hid (∀ q m, q ≤ M → m ≤ M → (flL cl n l order q m).length ≤ 1001000) := Lib.hid fun q m h1 h2 => flL_len (by omega) (by omega) (by omega)
  rw [hMe] at HSe HRk HBt hM
  clear hMe HAl
  go_enter Try.func9, Try.ntmps9
  go_upto_region 1 with fail
  rw [← hW0]
  clear hW0
  obtain ⟨xl, x0, x1, x2, x3, x4, x5⟩ := nm_in HX0.out
  generalize w.heap.size = bx at *
  go_wp2_with (go_at_call 29; (with_reducible refine (HSe.out _).mono ?_); rintro e2 w2 ⟨cb, nb, rfl, hg2, _, _⟩; have HG2 := Lib.hid hg2; clear hg2)
  clear xl x0 x1 x2 x3 x4 x5
  go_loopw [5, 17] (fun v i wr => AlO W0 cl n l order M v i wr) (fun _ i _ => M - (intOf i).toNat)
  case atStart => exact ⟨0, none, 0, [], Nat.zero_le _, rfl, rfl, (GatF.nil W0).on HG2.out⟩
  case round =>
    obtain ⟨q, A1, c1, css1, hq, rfl, rfl, hG⟩ := hrel
    have HGo := Lib.hid hG
    clear hG HG2 HSe
    by_cases hlt : q < M
    · obtain ⟨xl, x0, x1, x2, x3, x4, x5⟩ := nm_in (HX0.out.grew HGo.out.grew)
      have HR1 : Hid (∀ W, Grew w W → Gives Try.prog 30 #[.agg #[.int .i64 core, .slice A n k, .slice B ne j, .slice C p c, .slice D l.length d, .slice E qn en], .slice S ol ks, .int .i64 q] W (.int .i64 (rankI n (jsI l) order q))) := Lib.hid fun W hW => HRk.out q W hlt hW
      obtain ⟨low, hlow⟩ : ∃ low, rankI n (jsI l) order q = low := ⟨_, rfl⟩
      have HLow := Lib.hid hlow
      rw [hlow] at HR1
      clear hlow
      go_wp2_with (go_at_call 30; (with_reducible refine (HR1.out _ (HG0.out.trans HGo.out.grew)).grows.mono ?_); rintro e4 w4 ⟨rfl, hg4⟩; have HG4 := Lib.hid (HGo.out.on hg4); clear hg4)
      clear xl x0 x1 x2 x3 x4 x5 HR1
      go_loopw [5, 25] (fun v i wr => AlN W0 cl n l order M q v i wr) (fun _ i _ => M - (intOf i).toNat)
      case atStart => exact ⟨0, A1, c1, css1, Nat.zero_le _, rfl, rfl, HG4.out⟩
      case round =>
        obtain ⟨m, A2, c2, css2, hm, rfl, rfl, hG⟩ := hrel
        have HG := Lib.hid hG
        clear hG HG4
        have hle := HLn.out q m (by omega) hm
        by_cases hlm : m < M
        · obtain ⟨xl, x0, x1, x2, x3, x4, x5⟩ := nm_in (HX0.out.grew HG.out.grew)
          have HSk : Hid (flB cl n l order m q = none → flL cl n l order q (m + 1) = flL cl n l order q m) := Lib.hid fun h => flL_skip h
          have HPu : Hid (∀ x, flB cl n l order m q = some x → flL cl n l order q (m + 1) = flL cl n l order q m ++ [fvF x]) := Lib.hid fun x h => flL_put h
          have HR2 : Hid (∀ W, Grew w W → Gives Try.prog 30 #[.agg #[.int .i64 core, .slice A n k, .slice B ne j, .slice C p c, .slice D l.length d, .slice E qn en], .slice S ol ks, .int .i64 m] W (.int .i64 (rankI n (jsI l) order m))) := Lib.hid fun W hW => HRk.out m W hlm hW
          have HB2 : Hid (∀ W, Grew w W → Calls Try.prog 31 #[.agg #[.int .i64 core, .slice A n k, .slice B ne j, .slice C p c, .slice D l.length d, .slice E qn en], .int .i64 m, .int .i64 q] W (BetF W (betP cl n l m q))) := Lib.hid fun W hW => HBt.out m q W hlm hlt hW
          have HLo : Hid (low < 0 → flB cl n l order m q = none) := Lib.hid fun h => flB_low (by rw [HLow.out]; exact h)
          have HDr : Hid (order.head? = some (m : Int) → flB cl n l order m q = none) := Lib.hid fun h => flB_drv h
          have HRa : Hid (rankI n (jsI l) order m ≤ low → flB cl n l order m q = none) := Lib.hid fun h => flB_rank (by rw [HLow.out]; exact h)
          have HBe : Hid (betP cl n l m q = [] → flB cl n l order m q = none) := Lib.hid fun h => flB_bet h
          have HPt : Hid (¬ low < 0 → ¬ order.head? = some (m : Int) → ¬ rankI n (jsI l) order m ≤ low → ¬ betP cl n l m q = [] → flB cl n l order m q = some ⟨m, q, betP cl n l m q⟩) := Lib.hid fun h1 h2 h3 h4 => flB_put (by rw [HLow.out]; exact h1) h2 (by rw [HLow.out]; exact h3) h4
          generalize rankI n (jsI l) order m = rk at *
          generalize flB cl n l order m q = fb at *
          generalize betP cl n l m q = bp at *
          have hz : order.head? = none ∨ (order.head? = some (m : Int)) ∨ (∃ y, order.head? = some y ∧ ¬ y = m) := by
            cases ho : order.head? with
            | none => exact Or.inl rfl
            | some y =>
              by_cases hy : y = m
              · exact Or.inr (Or.inl (by rw [hy]))
              · exact Or.inr (Or.inr ⟨y, rfl, hy⟩)
          rcases hz with hz | hz | ⟨y, hz, hy⟩
          · have h0 : ol = 0 := by rw [← HOl.out]; cases order with | nil => rfl | cons a t => simp at hz
            subst h0
            have HZz := Lib.hid hz
            clear hz
            by_cases hlo : low < 0
            · have e2 : decide (low < (0 : Int)) = true := decide_eq_true hlo
              have HLx := Lib.hid (HSk.out (HLo.out hlo))
              clear HSk HPu HR2 HB2 HLo HDr HRa HBe HPt
              go_wp2_with fail
              exact ⟨⟨m + 1, A2, c2, css2, by omega, by go_num, by rw [HLx.out], by rw [HLx.out]; exact HG.out⟩, by simp only [intOf]; omega⟩
            · have e2 : decide (low < (0 : Int)) = false := decide_eq_false hlo
              by_cases hra : rk ≤ low
              · have e3 : decide (rk ≤ low) = true := decide_eq_true hra
                have HLx := Lib.hid (HSk.out (HRa.out hra))
                clear HSk HPu HB2 HLo HDr HRa HBe HPt
                go_wp2_with (go_at_call 30; (with_reducible refine (HR2.out _ (HG0.out.trans HG.out.grew)).grows.mono ?_); rintro e6 w6 ⟨rfl, hg6⟩; have HG6 := Lib.hid (HG.out.on hg6); clear hg6)
                exact ⟨⟨m + 1, A2, c2, css2, by omega, by go_num, by rw [HLx.out], by rw [HLx.out]; exact HG6.out⟩, by simp only [intOf]; omega⟩
              · have e3 : decide (rk ≤ low) = false := decide_eq_false hra
                by_cases hbe : bp = []
                · subst hbe
                  have HLx := Lib.hid (HSk.out (HBe.out rfl))
                  clear HSk HPu HLo HDr HRa HBe HPt
                  go_upto_region 12 with (go_at_call 30; (with_reducible refine (HR2.out _ (HG0.out.trans HG.out.grew)).grows.mono ?_); rintro e6 w6 ⟨rfl, hg6⟩; have HG6 := Lib.hid (HG.out.on hg6); clear hg6)
                  clear xl x0 x1 x2 x3 x4 x5
                  obtain ⟨xl, x0, x1, x2, x3, x4, x5⟩ := nm_in (HX0.out.grew HG6.out.grew)
                  go_wp2_with (go_at_call 31; (with_reducible refine (HB2.out _ (HG0.out.trans HG6.out.grew)).mono ?_); rintro e7 w7 ⟨va, vb, rfl, hg7, A7, c7, B7, d7, rfl, rfl, _, _⟩; have HG7 := Lib.hid (HG6.out.on hg7); clear hg7)
                  exact ⟨⟨m + 1, A2, c2, css2, by omega, by go_num, by rw [HLx.out], by rw [HLx.out]; exact HG7.out⟩, by simp only [intOf]; omega⟩
                · have HLx := Lib.hid (HPu.out _ (HPt.out hlo (by rw [HZz.out]; simp) hra hbe))
                  have hbl : 0 < bp.length := List.length_pos_iff.2 hbe
                  have HBl : Hid (0 < (lcP bp).length) := Lib.hid (by rw [lcP_len]; exact hbl)
                  clear HSk HPu HLo HDr HRa HBe HPt hbe hbl
                  go_upto_region 12 with (go_at_call 30; (with_reducible refine (HR2.out _ (HG0.out.trans HG.out.grew)).grows.mono ?_); rintro e6 w6 ⟨rfl, hg6⟩; have HG6 := Lib.hid (HG.out.on hg6); clear hg6)
                  clear xl x0 x1 x2 x3 x4 x5
                  obtain ⟨xl, x0, x1, x2, x3, x4, x5⟩ := nm_in (HX0.out.grew HG6.out.grew)
                  go_upto_region 13 with (go_at_call 31; (with_reducible refine (HB2.out _ (HG0.out.trans HG6.out.grew)).mono ?_); rintro e7 w7 ⟨va, vb, rfl, hg7, A7, c7, B7, d7, rfl, rfl, ha7, hb7⟩; have HG7 := Lib.hid (HG6.out.on hg7); have HFv := Lib.hid (BetR.fv (u := W0) (x := ⟨m, q, bp⟩) (w := w7) ⟨A7, c7, B7, d7, rfl, rfl, ha7, hb7⟩ HG6.out.grew.size); clear hg7 ha7 hb7)
                  clear xl x0 x1 x2 x3 x4 x5
                  have hBl := HBl.out
                  have e4 : decide ((0 : Int) < ((lcP bp).length : Int)) = true := decide_eq_true (by omega)
                  generalize (lcP bp).length = n1 at *
                  generalize (rcP bp).length = n2 at *
                  go_wp2_with (at_builtin; refine wpList_appB rfl _ _ 39 43 4 rfl W0.heap.size (.agg #[.int .i64 0, .slice none 0 0, .int .i64 0, .slice none 0 0]) 64 Try.underlying39 infoFl rfl (by decide) (by decide) _ (flL cl n l order q m).length css2.flatten rfl (HG7.out.on ((Grew.refl _).alloc _)).own _ 1 1 [.int .i64 m, .slice A7 n1 c7, .int .i64 q, .slice B7 n2 d7] rfl rfl (row_new _ 43 _ #[.int .i64 m, .slice A7 n1 c7, .int .i64 q, .slice B7 n2 d7] rfl) (by simp [Value.oneCell']) (by omega) (by rw [World.size_alloc]; have := HG7.out.grew.size; omega) ?_; intro A8 c8 w8 ho8 hg8; have HG8 := Lib.hid ((HG7.out.on ((Grew.refl _).alloc (.cells #[.int .i64 m, .slice A7 n1 c7, .int .i64 q, .slice B7 n2 d7] 43))).snoc (HFv.out.impI fun _ _ hm => hm.grew ((Grew.refl _).alloc _)) ho8 hg8); clear ho8 hg8)
                  exact ⟨⟨m + 1, A8, c8, css2 ++ [[.int .i64 m, .slice A7 n1 c7, .int .i64 q, .slice B7 n2 d7]], by omega, by go_num, by rw [HLx.out, List.length_append]; rfl, by rw [HLx.out]; exact HG8.out⟩, by simp only [intOf]; omega⟩
          · have h0 : 0 < order.length := by cases order with | nil => simp at hz | cons a t => simp
            have e0 : decide ((0 : Int) < (ol : Int)) = true := decide_eq_true (by have := HOl.out; omega)
            have e00 : (0 : Int) < (ol : Int) := by have := HOl.out; omega
            obtain ⟨b, o, rfl, hb0, hc0⟩ := rowI_at (HRs.out.grew (HG0.out.trans HG.out.grew)) h0
            have hm0 : order[0] = (m : Int) := by rw [List.head?_eq_getElem?, List.getElem?_eq_getElem h0] at hz; injection hz
            rw [hm0, Nat.add_zero] at hc0
            have HLx := Lib.hid (HSk.out (HDr.out hz))
            clear HSk HPu HR2 HB2 HLo HDr HRa HBe HPt hm0 hz
            by_cases hlo : low < 0
            · have e2 : decide (low < (0 : Int)) = true := decide_eq_true hlo
              go_wp2_with fail
              exact ⟨⟨m + 1, A2, c2, css2, by omega, by go_num, by rw [HLx.out], by rw [HLx.out]; exact HG.out⟩, by simp only [intOf]; omega⟩
            · have e2 : decide (low < (0 : Int)) = false := decide_eq_false hlo
              go_wp2_with fail
              exact ⟨⟨m + 1, A2, c2, css2, by omega, by go_num, by rw [HLx.out], by rw [HLx.out]; exact HG.out⟩, by simp only [intOf]; omega⟩
          · have h0 : 0 < order.length := by cases order with | nil => simp at hz | cons a t => simp
            have e0 : decide ((0 : Int) < (ol : Int)) = true := decide_eq_true (by have := HOl.out; omega)
            have e00 : (0 : Int) < (ol : Int) := by have := HOl.out; omega
            obtain ⟨b, o, rfl, hb0, hc0⟩ := rowI_at (HRs.out.grew (HG0.out.trans HG.out.grew)) h0
            have hm0 : order[0] = y := by rw [List.head?_eq_getElem?, List.getElem?_eq_getElem h0] at hz; injection hz
            rw [hm0, Nat.add_zero] at hc0
            have e5 : (y == (m : Int)) = false := by simpa using hy
            have HZz := Lib.hid hz
            clear hm0 hz
            by_cases hlo : low < 0
            · have e2 : decide (low < (0 : Int)) = true := decide_eq_true hlo
              have HLx := Lib.hid (HSk.out (HLo.out hlo))
              clear HSk HPu HR2 HB2 HLo HDr HRa HBe HPt
              go_wp2_with fail
              exact ⟨⟨m + 1, A2, c2, css2, by omega, by go_num, by rw [HLx.out], by rw [HLx.out]; exact HG.out⟩, by simp only [intOf]; omega⟩
            · have e2 : decide (low < (0 : Int)) = false := decide_eq_false hlo
              by_cases hra : rk ≤ low
              · have e3 : decide (rk ≤ low) = true := decide_eq_true hra
                have HLx := Lib.hid (HSk.out (HRa.out hra))
                clear HSk HPu HB2 HLo HDr HRa HBe HPt
                go_wp2_with (go_at_call 30; (with_reducible refine (HR2.out _ (HG0.out.trans HG.out.grew)).grows.mono ?_); rintro e6 w6 ⟨rfl, hg6⟩; have HG6 := Lib.hid (HG.out.on hg6); clear hg6)
                exact ⟨⟨m + 1, A2, c2, css2, by omega, by go_num, by rw [HLx.out], by rw [HLx.out]; exact HG6.out⟩, by simp only [intOf]; omega⟩
              · have e3 : decide (rk ≤ low) = false := decide_eq_false hra
                by_cases hbe : bp = []
                · subst hbe
                  have HLx := Lib.hid (HSk.out (HBe.out rfl))
                  clear HSk HPu HLo HDr HRa HBe HPt
                  go_upto_region 12 with (go_at_call 30; (with_reducible refine (HR2.out _ (HG0.out.trans HG.out.grew)).grows.mono ?_); rintro e6 w6 ⟨rfl, hg6⟩; have HG6 := Lib.hid (HG.out.on hg6); clear hg6)
                  clear xl x0 x1 x2 x3 x4 x5
                  obtain ⟨xl, x0, x1, x2, x3, x4, x5⟩ := nm_in (HX0.out.grew HG6.out.grew)
                  go_wp2_with (go_at_call 31; (with_reducible refine (HB2.out _ (HG0.out.trans HG6.out.grew)).mono ?_); rintro e7 w7 ⟨va, vb, rfl, hg7, A7, c7, B7, d7, rfl, rfl, _, _⟩; have HG7 := Lib.hid (HG6.out.on hg7); clear hg7)
                  exact ⟨⟨m + 1, A2, c2, css2, by omega, by go_num, by rw [HLx.out], by rw [HLx.out]; exact HG7.out⟩, by simp only [intOf]; omega⟩
                · have HLx := Lib.hid (HPu.out _ (HPt.out hlo (by rw [HZz.out]; simpa using hy) hra hbe))
                  have hbl : 0 < bp.length := List.length_pos_iff.2 hbe
                  have HBl : Hid (0 < (lcP bp).length) := Lib.hid (by rw [lcP_len]; exact hbl)
                  clear HSk HPu HLo HDr HRa HBe HPt hbe hbl
                  go_upto_region 12 with (go_at_call 30; (with_reducible refine (HR2.out _ (HG0.out.trans HG.out.grew)).grows.mono ?_); rintro e6 w6 ⟨rfl, hg6⟩; have HG6 := Lib.hid (HG.out.on hg6); clear hg6)
                  clear xl x0 x1 x2 x3 x4 x5
                  obtain ⟨xl, x0, x1, x2, x3, x4, x5⟩ := nm_in (HX0.out.grew HG6.out.grew)
                  go_upto_region 13 with (go_at_call 31; (with_reducible refine (HB2.out _ (HG0.out.trans HG6.out.grew)).mono ?_); rintro e7 w7 ⟨va, vb, rfl, hg7, A7, c7, B7, d7, rfl, rfl, ha7, hb7⟩; have HG7 := Lib.hid (HG6.out.on hg7); have HFv := Lib.hid (BetR.fv (u := W0) (x := ⟨m, q, bp⟩) (w := w7) ⟨A7, c7, B7, d7, rfl, rfl, ha7, hb7⟩ HG6.out.grew.size); clear hg7 ha7 hb7)
                  clear xl x0 x1 x2 x3 x4 x5
                  have hBl := HBl.out
                  have e4 : decide ((0 : Int) < ((lcP bp).length : Int)) = true := decide_eq_true (by omega)
                  generalize (lcP bp).length = n1 at *
                  generalize (rcP bp).length = n2 at *
                  go_wp2_with (at_builtin; refine wpList_appB rfl _ _ 39 43 4 rfl W0.heap.size (.agg #[.int .i64 0, .slice none 0 0, .int .i64 0, .slice none 0 0]) 64 Try.underlying39 infoFl rfl (by decide) (by decide) _ (flL cl n l order q m).length css2.flatten rfl (HG7.out.on ((Grew.refl _).alloc _)).own _ 1 1 [.int .i64 m, .slice A7 n1 c7, .int .i64 q, .slice B7 n2 d7] rfl rfl (row_new _ 43 _ #[.int .i64 m, .slice A7 n1 c7, .int .i64 q, .slice B7 n2 d7] rfl) (by simp [Value.oneCell']) (by omega) (by rw [World.size_alloc]; have := HG7.out.grew.size; omega) ?_; intro A8 c8 w8 ho8 hg8; have HG8 := Lib.hid ((HG7.out.on ((Grew.refl _).alloc (.cells #[.int .i64 m, .slice A7 n1 c7, .int .i64 q, .slice B7 n2 d7] 43))).snoc (HFv.out.impI fun _ _ hm => hm.grew ((Grew.refl _).alloc _)) ho8 hg8); clear ho8 hg8)
                  exact ⟨⟨m + 1, A8, c8, css2 ++ [[.int .i64 m, .slice A7 n1 c7, .int .i64 q, .slice B7 n2 d7]], by omega, by go_num, by rw [HLx.out, List.length_append]; rfl, by rw [HLx.out]; exact HG8.out⟩, by simp only [intOf]; omega⟩
        · obtain rfl : m = M := by omega
          have HFq := Lib.hid (HFu.out q)
          have hs1 := HG.out
          rw [HFq.out] at hs1
          have HGn := Lib.hid hs1
          clear hs1
          rw [HFq.out]
          clear HG hle HLn HFq HFu
          go_wp2_with fail
          exact ⟨⟨q + 1, A2, c2, css2, by omega, by go_num, rfl, HGn.out⟩, by simp only [intOf]; omega⟩
    · obtain rfl : q = M := by omega
      have hd := HGo.out.done
      rw [flL_zero] at hd ⊢
      have HF := Lib.hid hd
      clear hd
      go_wp2
      go_ret
      exact ⟨A1, c1, rfl, HG0.out.trans HGo.out.grew, HF.out⟩
end Go.Proofs.Ytoaciliojdaoaaa
