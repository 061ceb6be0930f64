/- The statement HistOfsSaid: for every input the law returns true, and each argument reads as it did. No condition beyond the row's own. -/
import Derived.Test.YtdohfbpjmnhhmaaHstMap
import Derived.Test.YtdohfbpjmnhhmaaHist7
import Derived.Test.YtdohfbpjmnhhmaaStat2
import Derived.Test.YtdohfbpjmnhhmaaUfOwn
import Derived.Test.YtdohfbpjmnhhmaaHeldTwo
import Derived.Deep.DeepCutAuto
import Derived.Deep.RegionWith
import Derived.Test.YtdohfbpjmnhhmaaStat4
import Derived.Test.YtdohfbpjmnhhmaaHead
import Derived.Test.YtdohfbpjmnhhmaaStat6
import Derived.Test.YtdohfbpjmnhhmaaFrame2

/- Layer 27: what is true of a column, by the program. Condition: no more than a thousand rows, values that are not larger than memory, and a map that is younger than the rows. -/
namespace Go.Proofs.Ytdohfbpjmnhhmaa
open Go.RowKit
attribute [local go_sem] more_cell more_frozen more_more more_setCell more_of_drew more_of_drewN lt_more le_more past_cell past_cell2 past_frozen past_frozen2 past_setCell past_setCell2 mid_cell mid_frozen mid_setCell
attribute [local go_sem ↓] Go.wp_at_zero Go.wp_at_succ

theorem val3_in {w : World} {g : Nat} {a b c : Value} (h : Blok w g 64 #[a, b, c]) : g < w.heap.size ∧ w.cell? ⟨g, 0, none⟩ = some a ∧ w.cell? ⟨g, 1, none⟩ = some b ∧ w.cell? ⟨g, 2, none⟩ = some c ∧ w.frozen? ⟨g, 0, none⟩ = false ∧ w.frozen? ⟨g, 1, none⟩ = false ∧ w.frozen? ⟨g, 2, none⟩ = false :=
  ⟨h.lt, h.cell 0, h.cell 1, h.cell 2, h.thaw 0, h.thaw 1, h.thaw 2⟩
theorem col3_in {w : World} {g : Nat} {a b c : Value} (h : Blok w g 40 #[a, b, c]) : g < w.heap.size ∧ w.cell? ⟨g, 0, none⟩ = some a ∧ w.cell? ⟨g, 1, none⟩ = some b ∧ w.cell? ⟨g, 2, none⟩ = some c ∧ w.frozen? ⟨g, 0, none⟩ = false ∧ w.frozen? ⟨g, 1, none⟩ = false ∧ w.frozen? ⟨g, 2, none⟩ = false :=
  ⟨h.lt, h.cell 0, h.cell 1, h.cell 2, h.thaw 0, h.thaw 1, h.thaw 2⟩
theorem val3_set {w : World} {g : Nat} {a b c : Value} (h : Blok w g 64 #[a, b, c]) (x y z : Value) : Blok (((w.setCell ⟨g, 0, none⟩ x).setCell ⟨g, 1, none⟩ y).setCell ⟨g, 2, none⟩ z) g 64 #[x, y, z] := by
  have := ((h.set 0 x).set 1 y).set 2 z
  simpa using this
theorem col3_set {w : World} {g : Nat} {a b c : Value} (h : Blok w g 40 #[a, b, c]) (x y z : Value) : Blok (((w.setCell ⟨g, 0, none⟩ x).setCell ⟨g, 1, none⟩ y).setCell ⟨g, 2, none⟩ z) g 40 #[x, y, z] := by
  have := ((h.set 0 x).set 1 y).set 2 z
  simpa using this
theorem Turns.aside {w w' : World} {g : Nat} (h : Turns w w' g) {p : Addr} (hp : w.heap.size ≤ p.block) (v : Value) : Turns w (w'.setCell p v) g := by
  refine ⟨h.os, h.tape, h.output, by simpa [World.setCell] using h.size, fun k hk hn => ?_⟩
  rw [← h.block k hk hn]
  simp only [World.setCell, Array.getElem?_modify]
  rw [if_neg (fun e => by omega)]
theorem Turns.gone {w w' w'' : World} {g : Nat} {row : Option Nat} (h : Turns w w' g) (k : w'.grownBy w'' row) (hr : ∀ q, row = some q → q = g ∨ w.heap.size ≤ q) : Turns w w'' g :=
  ⟨k.os.trans h.os, k.tape.trans h.tape, k.output.trans h.output, Nat.le_trans h.size k.size, fun i hi hn => (k.block i (Nat.lt_of_lt_of_le hi h.size) (fun e => by rcases hr i e.symm with h1 | h1 <;> omega)).trans (h.block i hi hn)⟩
/-- While a column's values are gone through: how many are none, which were met, the numbers. -/
structure ColS (w : World) (mb g6 g7 : Nat) (nn cc : Nat) (m : List Vl) (ns : List Int) (A : Option Addr) (cA : Nat) (wr : World) : Prop where
  turns : Turns w wr mb
  b6 : Blok wr g6 40 #[.int .i64 0, .int .i64 0, .slice none 0 0]
  b7 : Blok wr g7 40 #[.int .i64 0, .int .i64 nn, .slice none 0 0]
  map : MapC wr mb cc m
  own : wr.ownsRow (g7 + 1) 3 1 (.slice A ns.length cA) ns.length (iV ns)
section
variable {w : World} {mb g6 g7 nn cc : Nat} {m : List Vl} {ns : List Int} {A : Option Addr} {cA : Nat} {wr w' : World}
theorem ColS.on (h : ColS w mb g6 g7 nn cc m ns A cA wr) (k : Grew wr w') : ColS w mb g6 g7 nn cc m ns A cA w' := ⟨h.turns.grew k, h.b6.grew k, h.b7.grew k, h.map.grew k, own_grewO h.own k⟩
theorem ColS.null (h : ColS w mb g6 g7 nn cc m ns A cA wr) (hm : mb < w.heap.size) (h6 : w.heap.size ≤ g6) (h67 : g6 < g7) : ColS w mb g6 g7 (nn + 1) (cc + 1) m ns A cA (wr.setCell ⟨g7, 1, none⟩ (.int .i64 ((nn : Int) + 1))) := by
  refine ⟨h.turns.aside (by show w.heap.size ≤ g7; omega) _, h.b6.far (by show g6 ≠ g7; omega) _, ?_, (h.map.up (Nat.le_succ _)).turns ((Turns.refl _ _).set _ _) (by omega), ownsRow_setCell_below h.own (a := ⟨g7, 1, none⟩) (Nat.lt_succ_self _) _⟩
  have := h.b7.set 1 (.int .i64 ((nn : Int) + 1))
  simpa using this
theorem ColS.put (h : ColS w mb g6 g7 nn cc m ns A cA wr) (hm : mb < w.heap.size) (h6 : w.heap.size ≤ g6) (h67 : g6 < g7) {w1 w2 : World} {m' : List Vl} (k1 : wr.grownBy w1 (some mb)) (k2 : w1.grownBy w2 (some mb)) (hM : MapC w2 mb (cc + 1) m') : ColS w mb g6 g7 nn (cc + 1) m' ns A cA w2 := by
  have hb := own_base h.own
  refine ⟨(h.turns.gone k1 (fun q e => Or.inl (by injection e with e; exact e.symm))).gone k2 (fun q e => Or.inl (by injection e with e; exact e.symm)), (h.b6.grown k1 (fun e => by injection e with e; omega)).grown k2 (fun e => by injection e with e; omega), (h.b7.grown k1 (fun e => by injection e with e; omega)).grown k2 (fun e => by injection e with e; omega), hM, own_grown (own_grown h.own k1 (fun q hq e => by have := hb q hq; injection e with e; omega)) k2 (fun q hq e => by have := hb q hq; injection e with e; omega)⟩
theorem ColS.num (h : ColS w mb g6 g7 nn cc m ns A cA wr) (hm : mb < w.heap.size) (h6 : w.heap.size ≤ g6) (h67 : g6 < g7) {x : Int} {A' : Option Addr} {c' : Nat} (k : wr.grownBy w' (Value.slice A ns.length cA).ownBlock) (ho : w'.ownsRow (g7 + 1) 3 1 (.slice A' (ns.length + 1) c') (ns.length + 1) (iV ns ++ [.int .i64 x])) : ColS w mb g6 g7 nn cc m (ns ++ [x]) A' c' w' := by
  have hb := own_base h.own
  refine ⟨h.turns.gone k (fun q e => Or.inr (by have := hb q e; omega)), h.b6.grown k (fun e => by have := hb _ e; omega), h.b7.grown k (fun e => by have := hb _ e; omega), h.map.kept k (fun e => by have := hb _ e.symm; omega), ?_⟩
  rw [List.length_append, ← iV_snoc]
  exact ho
end
def ColAt (w : World) (mb g6 g7 : Nat) (l : List Vl) (n : Nat) (v i : Value) (wr : World) : Prop :=
  ∃ (j : Nat) (A : Option Addr) (cA : Nat), j ≤ n ∧ i = .int .i64 j ∧ v = .slice A (numbL (l.take j)).length cA ∧ ColS w mb g6 g7 (nullN (l.take j)) j (metL (l.take j)) (numbL (l.take j)) A cA wr
/-- What is handed back of a column, with the marks in a row of their own; nothing but the map has turned. -/
def ColPF (w : World) (mb : Nat) (x : Cst) (e : Ending) (w' : World) : Prop := ∃ B k, e = .returned (.agg #[.int .i64 x.u, .int .i64 x.n, .slice B x.m.length k]) ∧ x.m.length ≤ k ∧ Turns w w' mb ∧ TRow w.heap.size w' 3 B (iV x.m) ∧ ∃ cc m, MapC w' mb cc m
end Go.Proofs.Ytdohfbpjmnhhmaa

/- Layer 27: what is true of a column, by the program: the walk. Condition: no more than a thousand rows, values that are not larger than memory, and a map that is younger than the rows. -/
namespace Go.Proofs.Ytdohfbpjmnhhmaa
open Go.RowKit
attribute [local go_sem] more_cell more_frozen more_more more_setCell more_of_drew more_of_drewN lt_more le_more past_cell past_cell2 past_frozen past_frozen2 past_setCell past_setCell2 mid_cell mid_frozen mid_setCell
attribute [local go_sem ↓] Go.wp_at_zero Go.wp_at_succ

theorem nullN_le (l : List Vl) : nullN l ≤ l.length := List.countP_le_length
theorem getD_ok {r : List Vl} (h : RwOk r) (c : Nat) : VlOk (r.getD c default) := by
  rw [List.getD_eq_getElem?_getD]
  cases e : r[c]? with
  | none => exact ⟨by decide, by decide, Nat.zero_le _⟩
  | some x => exact h.2 x (List.mem_of_getElem? e)
theorem grew3 {u w : World} (h : Grew u w) {g : Nat} (hg : u.heap.size ≤ g) (x y z : Value) : Grew u (((w.setCell ⟨g, 0, none⟩ x).setCell ⟨g, 1, none⟩ y).setCell ⟨g, 2, none⟩ z) :=
  Grew.setCell (Grew.setCell (Grew.setCell h (a := ⟨g, 0, none⟩) hg _) (a := ⟨g, 1, none⟩) hg _) (a := ⟨g, 2, none⟩) hg _
set_option maxHeartbeats 4000000 in
set_option maxRecDepth 100000 in
theorem hcol_any (rows : List (List Vl)) (ho : RwsOk rows) (n : Nat) (hn : rows.length = n) (hn1 : n ≤ 1000) (c : Nat) (A : Option Addr) (k : Nat) (u w : World) (hu : Grew u w) (mb : Nat) (hmb : u.heap.size ≤ mb) (hM : MapC w mb 0 []) (ra : RwsR (PRow u) A rows) :
    Calls Try.prog 23 #[.slice A n k, .int .i64 c, .map (some mb)] w (ColPF w mb (colC (colV rows c))) := by
  have HRow : Hid (∀ j, j < n → ∃ b o B k m, A = some ⟨b, o, none⟩ ∧ (∀ W, Grew u W → b < W.heap.size ∧ W.cell? ⟨b, o + j, none⟩ = some (.slice B m k)) ∧
      ((m ≤ c ∧ (colV rows c).getD j default = default) ∨ (c < m ∧ ∃ b2 o2, B = some ⟨b2, o2, none⟩ ∧ ∀ W, Grew u W → b2 < W.heap.size ∧ W.cell? ⟨b2, o2 + c * 3, none⟩ = some (.int .i64 ((colV rows c).getD j default).k) ∧ W.cell? ⟨b2, o2 + c * 3 + 1, none⟩ = some (.int .i64 ((colV rows c).getD j default).i) ∧ W.cell? ⟨b2, o2 + c * 3 + 2, none⟩ = some (.string ((colV rows c).getD j default).s)))) := Lib.hid fun j hj => by
    have hj' : j < rows.length := by omega
    obtain ⟨b, o, B, k, hA, hb, hcl, _, hr⟩ := rwsR_at ra hj'
    have e : (colV rows c).getD j default = rows[j].getD c default := by
      rw [List.getD_eq_getElem?_getD, List.getElem?_eq_getElem (by rw [colV_len]; exact hj')]
      exact colV_at hj'
    refine ⟨b, o, B, k, rows[j].length, hA, fun W hW => ⟨Nat.lt_of_lt_of_le hb hW.size, (hW.cell (a := ⟨b, o + j, none⟩) hb).trans hcl⟩, ?_⟩
    rw [e]
    rcases Nat.lt_or_ge c rows[j].length with h | h
    · obtain ⟨b2, o2, hB, hb2, c0, c1, c2⟩ := vlsR_at hr h
      have e2 : rows[j].getD c default = rows[j][c] := by rw [List.getD_eq_getElem?_getD, List.getElem?_eq_getElem h]; rfl
      rw [e2]
      exact Or.inr ⟨h, b2, o2, hB, fun W hW => ⟨Nat.lt_of_lt_of_le hb2 hW.size, (hW.cell (a := ⟨b2, o2 + c * 3, none⟩) hb2).trans c0, (hW.cell (a := ⟨b2, o2 + c * 3 + 1, none⟩) hb2).trans c1, (hW.cell (a := ⟨b2, o2 + c * 3 + 2, none⟩) hb2).trans c2⟩⟩
    · exact Or.inl ⟨h, by rw [List.getD_eq_getElem?_getD, List.getElem?_eq_none h]; rfl⟩
  have HVo : Hid (∀ j, VlOk ((colV rows c).getD j default)) := Lib.hid fun j => by
    rw [List.getD_eq_getElem?_getD]
    cases e : (colV rows c)[j]? with
    | none => exact ⟨by decide, by decide, Nat.zero_le _⟩
    | some x =>
      obtain ⟨r, hr, rfl⟩ := List.mem_map.1 (List.mem_of_getElem? e)
      exact getD_ok (ho.2 r hr) c
  have HLn : Hid ((colV rows c).length = n) := Lib.hid ((colV_len rows c).trans hn)
  clear ra ho hn
  generalize colV rows c = L at *
  have HTk : Hid (∀ j, j < n → L.take (j + 1) = L.take j ++ [L.getD j default]) := Lib.hid fun j hj => by
    have hj' : j < L.length := by rw [HLn.out]; exact hj
    rw [List.take_succ_eq_append_getElem hj', List.getD_eq_getElem?_getD, List.getElem?_eq_getElem hj']
    rfl
  have HNl : Hid (∀ j, j ≤ n → nullN (L.take j) ≤ 1000 ∧ (numbL (L.take j)).length ≤ 1000) := Lib.hid fun j hj => by
    have h1 := nullN_le (L.take j)
    have h2 := numbL_len (L.take j)
    rw [List.length_take] at h1 h2
    omega
  have hml := hM.lt
  obtain ⟨W0, hW0⟩ : ∃ W0, W0 = (w.alloc (.cells #[.int .i64 0, .int .i64 0, .slice none 0 0] 40)).alloc (.cells #[.int .i64 0, .int .i64 0, .slice none 0 0] 40) := ⟨_, rfl⟩
  have HS0 : Hid (ColS w mb w.heap.size (w.heap.size + 1) 0 0 [] [] none 0 W0) := Lib.hid (by
    rw [hW0]
    exact ⟨(Turns.refl w mb).grew (((Grew.refl w).alloc _).alloc _), (Blok.new _ _ _ _ rfl).alloc _, Blok.new _ _ _ _ (by simp), hM.grew (((Grew.refl w).alloc _).alloc _), own_none _ _ _ _⟩)
  have hus := hu.size
  have HGu : Hid (∀ W, Turns w W mb → Grew u W) := Lib.hid fun W hW => hW.below hu hmb
  clear hM hu
  go_enter Try.func23, Try.ntmps23
  go_upto_region 2 with fail
  rw [← hW0]
  clear hW0
  have h6 : w.heap.size ≤ w.heap.size := Nat.le_refl _
  have h67 : w.heap.size < w.heap.size + 1 := Nat.lt_succ_self _
  obtain ⟨g6, hg6⟩ : ∃ g6, w.heap.size = g6 := ⟨_, rfl⟩
  obtain ⟨g7, hg7⟩ : ∃ g7, w.heap.size + 1 = g7 := ⟨_, rfl⟩
  rw [hg7] at HS0 h67 ⊢
  have HH6 := Lib.hid hg6
  have HML : Hid (mb < w.heap.size) := Lib.hid hml
  have HL6 : Hid (w.heap.size ≤ g6) := Lib.hid (by omega)
  have HL67 : Hid (g6 < g7) := Lib.hid (by omega)
  rw [hg6] at HS0 ⊢
  clear h6 h67 hml
  go_wp2
  go_loopw [8, 15] (fun v i wr => ColAt w mb g6 g7 L n v i wr) (fun _ i _ => n - (intOf i).toNat)
  case atStart => exact ⟨0, none, 0, Nat.zero_le _, rfl, rfl, HS0.out⟩
  case round =>
    obtain ⟨j, A1, c1, hj, rfl, rfl, hs⟩ := hrel
    obtain ⟨hnn, hns⟩ := HNl.out j hj
    by_cases hjn : j < n
    · have HS := Lib.hid hs
      have HTk1 := Lib.hid (HTk.out j hjn)
      have HVj := Lib.hid (HVo.out j)
      have HMn : Hid ((L.getD j default).k = 0 → metL (L.take j) = metL (L.take (j + 1)) ∧ numbL (L.take j) = numbL (L.take (j + 1)) ∧ nullN (L.take j) + 1 = nullN (L.take (j + 1))) := Lib.hid fun e => by
        rw [HTk1.out]
        exact ⟨(metL_null e).symm, (numbL_not (by rw [e]; decide)).symm, (nullN_null e).symm⟩
      have HMs : Hid (¬ (L.getD j default).k = 0 → (if L.getD j default ∈ metL (L.take j) then metL (L.take j) else metL (L.take j) ++ [L.getD j default]) = metL (L.take (j + 1)) ∧ nullN (L.take j) = nullN (L.take (j + 1))) := Lib.hid fun e => by
        rw [HTk1.out, nullN_not e]
        refine ⟨?_, rfl⟩
        split
        · rename_i h; exact (metL_old h).symm
        · rename_i h; exact (metL_new e h).symm
      have HNm : Hid ((L.getD j default).k = 1 → numbL (L.take (j + 1)) = numbL (L.take j) ++ [(L.getD j default).i]) := Lib.hid fun e => by rw [HTk1.out]; exact numbL_num e
      have HNo : Hid (¬ (L.getD j default).k = 1 → numbL (L.take (j + 1)) = numbL (L.take j)) := Lib.hid fun e => by rw [HTk1.out]; exact numbL_not e
      have HTo : Hid (∀ A cA wr, ColS w mb g6 g7 (nullN (L.take (j + 1))) (j + 1) (metL (L.take (j + 1))) (numbL (L.take (j + 1))) A cA wr → ColAt w mb g6 g7 L n (.slice A (numbL (L.take (j + 1))).length cA) (.int .i64 ((j : Int) + 1)) wr) := Lib.hid fun A cA wr h => ⟨j + 1, A, cA, by omega, by go_num, rfl, h⟩
      obtain ⟨b, o, B, k', m, rfl, hrow, hval⟩ := HRow.out j hjn
      have HRw := Lib.hid hrow
      have HV := Lib.hid hval
      clear hs hrow hval HRow HVo HTk HNl HTk1 HS0
      generalize nullN (L.take (j + 1)) = nn' at *
      generalize metL (L.take (j + 1)) = m' at *
      generalize numbL (L.take (j + 1)) = ns' at *
      generalize nullN (L.take j) = nn at *
      generalize metL (L.take j) = mm at *
      generalize numbL (L.take j) = ns at *
      generalize L.getD j default = v at *
      obtain ⟨rb, rc⟩ := HRw.out wr (HGu.out _ HS.out.turns)
      clear hg6 hg7
      go_upto_region 7 with (go_at_call 35; (with_reducible refine (null_any _).grows.mono ?_); rintro e w1 ⟨rfl, hg1⟩; have HG1 := Lib.hid hg1; clear hg1)
      obtain ⟨W2, hW2⟩ : ∃ W2, W2 = w1.alloc (.cells #[.int .i64 0, .int .i64 0, .string ⟨#[]⟩] 64) := ⟨_, rfl⟩
      have HB2 : Hid (Blok W2 w1.heap.size 64 #[.int .i64 0, .int .i64 0, .string ⟨#[]⟩]) := Lib.hid (by rw [hW2]; exact Blok.new _ _ _ _ rfl)
      have HG2 : Hid (Grew wr W2) := Lib.hid (by rw [hW2]; exact HG1.out.alloc _)
      have HS2 := Lib.hid (HS.out.on HG2.out)
      have hwr1 : wr.heap.size ≤ w1.heap.size := HG1.out.size
      have hwwr : w.heap.size ≤ wr.heap.size := HS.out.turns.size
      rw [← hW2]
      clear hW2 HG1 rb rc
      generalize w1.heap.size = g11 at *
      obtain ⟨rb, rc⟩ := HRw.out W2 (HGu.out _ HS2.out.turns)
      rcases HV.out with ⟨hmc, hv⟩ | ⟨hmc, b2, o2, rfl, hcl⟩
      · -- no value at that place
        have E0 : v.k = 0 := by rw [hv]; rfl
        obtain ⟨E1, E2, E3⟩ := HMn.out E0
        have hmc' : (m : Int) ≤ (c : Int) := by omega
        have e1 : decide ((c : Int) < (m : Int)) = false := decide_eq_false (by omega)
        have HIsN : Hid (∀ W, Gives Try.prog 36 #[.agg #[.int .i64 0, .int .i64 0, .string ⟨#[]⟩]] W (.bool true)) := Lib.hid fun W => isnull_any 0 0 _ W
        have HE := Lib.hid (And.intro E1 (And.intro E2 E3))
        have HS3 := HS2
        obtain ⟨p0, p1, p2, p3, _⟩ := val3_in HB2.out
        clear hv hmc E0 HMn HMs HNm HNo HV HS HS2 E1 E2 E3
        go_wp2_with (first | (go_at_call 36; (with_reducible refine (HIsN.out _).grows.mono ?_); rintro e w4 ⟨rfl, hg4⟩; have HS4 := Lib.hid (HS3.out.on hg4); obtain ⟨q0, q1, q2, q3, q4, q5, q6⟩ := col3_in HS4.out.b7; have HF := Lib.hid (HTo.out _ _ _ (by have h := HS4.out.null HML.out HL6.out HL67.out; rw [HE.out.1, HE.out.2.1, HE.out.2.2] at h; exact h)); clear hg4))
        rw [HE.out.2.1]
        exact ⟨HF.out, by simp only [intOf]; omega⟩
      · obtain ⟨rb2, rc0, rc1, rc2⟩ := hcl W2 (HGu.out _ HS2.out.turns)
        have hmc' : (c : Int) < (m : Int) := by omega
        have e1 : decide ((c : Int) < (m : Int)) = true := decide_eq_true (by omega)
        obtain ⟨p0, p1, p2, p3, p4, p5, p6⟩ := val3_in HB2.out
        have HB3 := Lib.hid (val3_set HB2.out (.int .i64 v.k) (.int .i64 v.i) (.string v.s))
        have HG3 := Lib.hid (grew3 HG2.out hwr1 (.int .i64 v.k) (.int .i64 v.i) (.string v.s))
        clear hcl HV
        go_upto_region 9 with fail
        have HS3 := Lib.hid (HS.out.on HG3.out)
        clear HS HS2 HG2 HG3 HB2 p0 p1 p2 p3 p4 p5 p6 rb2 rc0 rc1 rc2 rb rc
        generalize (((W2.setCell ⟨g11, 0, none⟩ (.int .i64 v.k)).setCell ⟨g11, 1, none⟩ (.int .i64 v.i)).setCell ⟨g11, 2, none⟩ (.string v.s)) = W3 at *
        obtain ⟨p0, p1, p2, p3, _⟩ := val3_in HB3.out
        by_cases hk0 : v.k = 0
        · obtain ⟨E1, E2, E3⟩ := HMn.out hk0
          have HE := Lib.hid (And.intro E1 (And.intro E2 E3))
          have HIsN : Hid (∀ W, Gives Try.prog 36 #[.agg #[.int .i64 v.k, .int .i64 v.i, .string v.s]] W (.bool true)) := Lib.hid fun W => by have := isnull_any v.k v.i v.s W; rw [hk0] at this ⊢; exact this
          clear hk0 HMn HMs HNm HNo E1 E2 E3
          go_wp2_with (first | (go_at_call 36; (with_reducible refine (HIsN.out _).grows.mono ?_); rintro e w4 ⟨rfl, hg4⟩; have HS4 := Lib.hid (HS3.out.on hg4); obtain ⟨q0, q1, q2, q3, q4, q5, q6⟩ := col3_in HS4.out.b7; have HF := Lib.hid (HTo.out _ _ _ (by have h := HS4.out.null HML.out HL6.out HL67.out; rw [HE.out.1, HE.out.2.1, HE.out.2.2] at h; exact h)); clear hg4))
          rw [HE.out.2.1]
          exact ⟨HF.out, by simp only [intOf]; omega⟩
        · obtain ⟨E1, E2⟩ := HMs.out hk0
          have HE := Lib.hid (And.intro E1 E2)
          have HIsN : Hid (∀ W, Gives Try.prog 36 #[.agg #[.int .i64 v.k, .int .i64 v.i, .string v.s]] W (.bool false)) := Lib.hid fun W => by
            have := isnull_any v.k v.i v.s W
            rw [show (v.k == 0) = false from beq_eq_false_iff_ne.2 hk0] at this
            exact this
          clear hk0 HMn HMs E1 E2
          go_upto_region 11 with (first | (go_at_call 36; (with_reducible refine (HIsN.out _).grows.mono ?_); rintro e w4 ⟨rfl, hg4⟩; have HS4 := Lib.hid (HS3.out.on hg4); have HB4 := Lib.hid (HB3.out.grew hg4); clear hg4))
          clear HS3 HB3 p0 p1 p2 p3
          obtain ⟨vk, vi, vs⟩ := v
          simp only at *
          have HS5 := Lib.hid (HS4.out.on (Grew.refl w4).drew)
          have HB5 := Lib.hid (HB4.out.grew (Grew.refl w4).drew)
          obtain ⟨n0, st, v0, w5, w6, hn0, l1, m1, l2, gb5, s1, gb6, hM6⟩ := mapC_inc HS5.out.map HVj.out
          have hgm : g11 ≠ mb := by have := HML.out; omega
          have HB5b := Lib.hid (HB5.out.grown gb5 (fun e => by injection e with e; omega))
          have HB6 := Lib.hid (HB5b.out.grown gb6 (fun e => by injection e with e; omega))
          have HS6 := Lib.hid (HS5.out.put HML.out HL6.out HL67.out gb5 gb6 hM6)
          rw [HE.out.1, HE.out.2] at HS6
          have hwq : IntKind.i64.wrap ((n0 : Int) + 1) = (n0 : Int) + 1 := IntWalk.i64_in _ (by omega)
          unfold keyV at l1 m1 l2
          clear hM6 gb5 gb6 HS4 HB4 HS5 HE hn0
          go_cut [] (fun wx => wx = w6)
          case first =>
            refine wp_region_S (fun W => Blok W g11 64 #[.int .i64 vk, .int .i64 vi, .string vs]) (by kernel_rfl) ?_
            refine held_take 0 (v := ?_) rfl (by kernel_rfl) (by kernel_rfl) (by kernel_rfl) (fun _ _ _ h => h) (by rfl) ?_ HB5.out ?_
            rotate_left
            · (intro W hW; obtain ⟨z0, z1, z2, z3, _⟩ := val3_in hW; go_simp; with_reducible rfl)
            refine held_take 1 (v := ?_) rfl (by kernel_rfl) (by kernel_rfl) (by kernel_rfl) (fun _ _ _ h => h) (by rfl) ?_ HB5.out ?_
            rotate_left
            · (intro W hW; obtain ⟨z0, z1, z2, z3, _⟩ := val3_in hW; go_simp; with_reducible rfl)
            refine held_norm (a' := ?_) ?_ ?_
            rotate_left
            · (go_simp; with_reducible rfl)
            refine held_two 2 4 (by kernel_rfl) rfl rfl (by rfl) (by rfl) (fun K hK => ?_) (fun K hK => ?_)
            · go_simp
              go_wp2_with fail
              refine hK.out _ _ HB5.out ?_
              clear hK K
              refine held_take 3 (v := ?_) rfl (by kernel_rfl) (by kernel_rfl) (by kernel_rfl) (fun _ _ _ h => h) (by rfl) ?_ HB5.out ?_
              rotate_left
              · (intro W hW; go_simp; with_reducible rfl)
              refine held_norm (a' := ?_) ?_ ?_
              rotate_left
              · (go_simp; with_reducible rfl)
              refine held_call 4 (by kernel_rfl) rfl (by rfl) (fun K hK => ?_)
              go_simp
              go_wp2_with fail
              refine hK.out _ _ HB5b.out ?_
              clear hK K
              refine held_take 5 (v := ?_) rfl (by kernel_rfl) (by kernel_rfl) (by kernel_rfl) (fun _ _ _ h => h) (by rfl) ?_ HB5b.out ?_
              rotate_left
              · (intro W hW; go_simp; with_reducible rfl)
              refine held_norm (a' := ?_) ?_ ?_
              rotate_left
              · (go_simp; with_reducible rfl)
              refine held_call 6 (by kernel_rfl) rfl (by rfl) (fun K hK => ?_)
              go_simp
              go_wp2_with fail
              refine hK.out _ _ HB6.out ?_
              clear hK K
              refine held_done (by kernel_rfl) ?_
              go_wp2_with fail
              go_meet
              rfl
            · go_simp
              go_wp2_with fail
              refine hK.out _ _ HB5b.out ?_
              clear hK K
              refine held_take 5 (v := ?_) rfl (by kernel_rfl) (by kernel_rfl) (by kernel_rfl) (fun _ _ _ h => h) (by rfl) ?_ HB5b.out ?_
              rotate_left
              · (intro W hW; go_simp; with_reducible rfl)
              refine held_norm (a' := ?_) ?_ ?_
              rotate_left
              · (go_simp; with_reducible rfl)
              refine held_call 2 (by kernel_rfl) rfl (by rfl) (fun K hK => ?_)
              go_simp
              go_wp2_with fail
              refine hK.out _ _ HB5b.out ?_
              clear hK K
              refine held_take 3 (v := ?_) rfl (by kernel_rfl) (by kernel_rfl) (by kernel_rfl) (fun _ _ _ h => h) (by rfl) ?_ HB5b.out ?_
              rotate_left
              · (intro W hW; go_simp; with_reducible rfl)
              refine held_norm (a' := ?_) ?_ ?_
              rotate_left
              · (go_simp; with_reducible rfl)
              refine held_call 6 (by kernel_rfl) rfl (by rfl) (fun K hK => ?_)
              go_simp
              go_wp2_with fail
              refine hK.out _ _ HB6.out ?_
              clear hK K
              refine held_done (by kernel_rfl) ?_
              go_wp2_with fail
              go_meet
              rfl
          case rest =>
            have hwc := hcut.symm
            subst hwc
            obtain ⟨p0, p1, p2, p3, _⟩ := val3_in HB6.out
            have HLt := Lib.hid HS6.out.b7.lt
            clear l1 m1 l2 s1 HB5 HB5b hwq
            by_cases hk1 : vk = 1
            · subst hk1
              have E := HNm.out rfl
              have HEn := Lib.hid E
              have HSa := Lib.hid (HS6.out.on ((Grew.refl w6).alloc (.cells #[.int .i64 vi] 3)))
              clear E HNm HNo HVj
              go_wp2_with (at_builtin; refine wpList_appB rfl _ _ 38 3 1 rfl (g7 + 1) (.int .i64 0) 8 Try.underlying38 infoI rfl (by decide) (by decide) _ ns.length (iV ns) rfl HSa.out.own _ 1 1 [.int .i64 vi] rfl rfl (row_one _ _ _ _ rfl) (by simp [Value.oneCell']) (by omega) (by rw [World.size_alloc]; have := HLt.out; omega) ?_; intro A9 c9 w9 ho9 hg9; have HF := Lib.hid (HTo.out _ _ _ (by have h := HSa.out.num HML.out HL6.out HL67.out hg9 ho9; rw [← HEn.out] at h; exact h)); clear ho9 hg9)
              rw [HEn.out, List.length_append] at HF
              exact ⟨HF.out, by simp only [intOf]; omega⟩
            · have hbeq : (vk == 1) = false := beq_eq_false_iff_ne.2 hk1
              have E := HNo.out hk1
              have HF := Lib.hid (HTo.out A1 c1 _ (by rw [E]; exact HS6.out))
              rw [E] at HF
              clear HNm HNo HVj E
              go_wp2
              exact ⟨HF.out, by simp only [intOf]; omega⟩
    · obtain rfl : j = n := by omega
      have eL : L.take j = L := List.take_of_length_le (by rw [HLn.out]; exact Nat.le_refl _)
      rw [eL] at hs hnn hns ⊢
      have HS := Lib.hid hs
      have HLen := Lib.hid (mapC_len HS.out.map 3)
      have hml := metL_le L
      rw [HLn.out] at hml
      have HC : Hid (colC L = ⟨(metL L).length, nullN L, marksI (numbL L)⟩) := Lib.hid rfl
      clear hs HRow HVo HTk HNl HS0 eL HLn hg6 hg7
      obtain ⟨hl, hhl⟩ : ∃ hl, (metL L).length = hl := ⟨_, rfl⟩
      rw [hhl] at HC HLen hml
      have HHl := Lib.hid hhl
      clear hhl
      generalize metL L = mm at *
      generalize nullN L = nn at *
      generalize numbL L = ns at *
      generalize colC L = cC at *
      have hlen := HLen.out
      obtain ⟨q0, q1, q2, q3, q4, q5, q6⟩ := col3_in HS.out.b7
      go_upto_region 16 with fail
      have HT1 := Lib.hid (HS.out.turns.aside (p := ⟨g7, 0, none⟩) (by show w.heap.size ≤ g7; have := HL6.out; have := HL67.out; omega) (.int .i64 hl))
      have HB7 : Hid (Blok (wr.setCell ⟨g7, 0, none⟩ (.int .i64 hl)) g7 40 #[.int .i64 hl, .int .i64 nn, .slice none 0 0]) := Lib.hid (by
        have := HS.out.b7.set 0 (.int .i64 hl)
        simpa using this)
      have HB6 := Lib.hid (HS.out.b6.far (p := ⟨g7, 0, none⟩) (by show g6 ≠ g7; have := HL67.out; omega) (.int .i64 hl))
      have HM6 := Lib.hid (HS.out.map.turns ((Turns.refl wr g7).set 0 (.int .i64 hl)) (by have := HML.out; have := HL6.out; have := HL67.out; omega))
      have HOw := Lib.hid (own_rowI (ownsRow_setCell_below HS.out.own (a := ⟨g7, 0, none⟩) (Nat.lt_succ_self _) (.int .i64 hl)))
      clear q0 q1 q2 q3 q4 q5 q6 HS hlen HLen
      generalize wr.setCell ⟨g7, 0, none⟩ (.int .i64 hl) = w1 at *
      have HMk := Lib.hid (marksT_any ns (by omega) A1 c1 w1 HOw.out)
      have HHn := Lib.hid (And.intro hml hns)
      generalize marksI ns = ms at *
      go_wp2_with fail
      refine HMk.out.mono ?_
      rintro e w2 ⟨B, kB, rfl, hkB, hg2, ht2⟩
      have HT2 := Lib.hid (HT1.out.grew hg2)
      have HB72 := Lib.hid (HB7.out.grew hg2)
      have HB62 := Lib.hid (HB6.out.grew hg2)
      have HM2 := Lib.hid (HM6.out.grew hg2)
      have h71 := HB7.out.lt
      have h61 := HB6.out.lt
      have hws := HT1.out.size
      obtain ⟨q0, q1, q2, q3, q4, q5, q6⟩ := col3_in HB72.out
      have HBf := Lib.hid (HB72.out.set 2 (.slice B ms.length kB))
      have HFin : Hid (∀ W', W' = (((w2.setCell ⟨g7, 2, none⟩ (.slice B ms.length kB)).setCell ⟨g6, 0, none⟩ (.int .i64 hl)).setCell ⟨g6, 1, none⟩ (.int .i64 nn)).setCell ⟨g6, 2, none⟩ (.slice B ms.length kB) →
          ColPF w mb cC (.returned (.agg #[.int .i64 hl, .int .i64 nn, .slice B ms.length kB])) W' ∧ Blok W' g6 40 #[.int .i64 hl, .int .i64 nn, .slice B ms.length kB]) := Lib.hid fun W' e => by
        subst e
        have a6 := HL6.out
        have a7 := HL67.out
        have am := HML.out
        have k7 := (Turns.refl w2 g7).set 2 (.slice B ms.length kB)
        have k6 := (((Turns.refl (w2.setCell ⟨g7, 2, none⟩ (.slice B ms.length kB)) g6).set 0 (.int .i64 hl)).set 1 (.int .i64 nn)).set 2 (.slice B ms.length kB)
        refine ⟨?_, ?_⟩
        · rw [HC.out]
          refine ⟨B, kB, rfl, hkB, ?_, ?_, _, _, (HM2.out.turns k7 (by omega)).turns k6 (by omega)⟩
          · exact (((HT2.out.aside (p := ⟨g7, 2, none⟩) (by show w.heap.size ≤ g7; omega) _).aside (p := ⟨g6, 0, none⟩) (by show w.heap.size ≤ g6; omega) _).aside (p := ⟨g6, 1, none⟩) (by show w.heap.size ≤ g6; omega) _).aside (p := ⟨g6, 2, none⟩) (by show w.heap.size ≤ g6; omega) _
          · exact ((ht2.turns k7 h71).turns k6 h61).low hws
        · exact col3_set (HB62.out.far (p := ⟨g7, 2, none⟩) (by show g6 ≠ g7; omega) _) _ _ _
      have z6 := HB62.out.lt
      have z60 := HB62.out.thaw 0
      have z61 := HB62.out.thaw 1
      have z62 := HB62.out.thaw 2
      have c60 := HB62.out.cell 0
      have c61 := HB62.out.cell 1
      have c62 := HB62.out.cell 2
      simp only [List.getElem?_toArray, List.getElem?_cons_zero, List.getElem?_cons_succ] at c60 c61 c62
      have h67 : g6 ≠ g7 := by have := HL67.out; omega
      have h76 : g7 ≠ g6 := by omega
      clear hg2 ht2 hkB HT1 HT2 HB6 HB7 HB62 HB72 HM6 HM2 HOw HMk HC h71 h61 hws
      go_wp2
      obtain ⟨hF, hB⟩ := HFin.out _ rfl
      obtain ⟨_, r0, r1, r2, _⟩ := col3_in hB
      exact bodyPost_ret (v := .agg #[.int .i64 hl, .int .i64 nn, .slice B ms.length kB]) (by simp [results, Try.results23, go_sem, r0, r1, r2]) rfl hF
end Go.Proofs.Ytdohfbpjmnhhmaa

/- Layer 27: what is true of a table, by the program. Condition: no more than a thousand rows and columns. -/
namespace Go.Proofs.Ytdohfbpjmnhhmaa
open Go.RowKit
attribute [local go_sem] more_cell more_frozen more_more more_setCell more_of_drew more_of_drewN lt_more le_more past_cell past_cell2 past_frozen past_frozen2 past_setCell past_setCell2 mid_cell mid_frozen mid_setCell
attribute [local go_sem ↓] Go.wp_at_zero Go.wp_at_succ

theorem mk_mapH {P : Program} (t : TypeId) (w : World) : (Instr.makeMap t none).run P w = .ok (.map (some w.heap.size)) (w.alloc (.map #[] 0)) := rfl
theorem neTB : (3 : TypeId) ≠ 25 := by decide
theorem Turns.of_grown {w w' : World} {g : Nat} (k : w.grownBy w' (some g)) : Turns w w' g := ⟨k.os, k.tape, k.output, k.size, fun i hi hn => k.block i hi (fun e => hn (by injection e))⟩
theorem MapC.notCells {w : World} {mb cc : Nat} {m : List Vl} (h : MapC w mb cc m) {cur : Array Value} {e : TypeId} : w.heap[mb]? ≠ some (.cells cur e (0, 0)) := by
  obtain ⟨⟨es, clock, hb, _⟩, _⟩ := h
  rw [hb]
  intro e
  injection e with e
  cases e
theorem MRow.mapT {u w w' : World} {e : TypeId} {A : Option Addr} {xs : List Value} {mb cc : Nat} {m : List Vl} (h : MRow u w e A xs) (hm : MapC w mb cc m) (k : Turns w w' mb) : MRow u w' e A xs := by
  rcases h with h | h
  · exact Or.inl h
  · refine Or.inr (h.block fun b cur _ hb => ?_)
    refine k.block b (Array.getElem?_eq_some_iff.1 hb).1 fun e => ?_
    subst e
    exact hm.notCells hb
/-- While the columns of what is said are gathered. -/
structure OfI (u : World) (g1 g2 g3 B0 : Nat) (tcs : Array Value) (n : Int) (l : List Cst) (A : Option Addr) (c : Nat) (css : List (List Value)) (wr : World) : Prop where
  ord : u.heap.size ≤ g1 ∧ g1 < g2 ∧ g2 < g3 ∧ g3 < B0
  grew : Grew u wr
  b1 : Blok wr g1 25 tcs
  b2 : Blok wr g2 31 #[.int .i64 0, .slice none 0 0]
  b3 : Blok wr g3 31 #[.int .i64 n, .slice A l.length c]
  own : wr.ownsRow B0 40 3 (.slice A l.length c) l.length css.flatten
  rows : ListR (CstR (MRow u wr)) 3 l css
section
variable {u : World} {g1 g2 g3 B0 : Nat} {tcs : Array Value} {n : Int} {l : List Cst} {A : Option Addr} {c : Nat} {css : List (List Value)} {wr w' : World}
theorem OfI.on (h : OfI u g1 g2 g3 B0 tcs n l A c css wr) (k : Grew wr w') : OfI u g1 g2 g3 B0 tcs n l A c css w' :=
  ⟨h.ord, h.grew.trans k, h.b1.grew k, h.b2.grew k, h.b3.grew k, own_grewO h.own k, h.rows.map fun _ _ hy => hy.imp fun _ _ hm => hm.grew k⟩
theorem OfI.turn (h : OfI u g1 g2 g3 B0 tcs n l A c css wr) {mb cc : Nat} {m : List Vl} (hm : MapC wr mb cc m) (k : Turns wr w' mb) (h3 : g3 < mb) (hb : mb < B0) : OfI u g1 g2 g3 B0 tcs n l A c css w' := by
  obtain ⟨o1, o2, o3, o4⟩ := h.ord
  exact ⟨h.ord, k.below h.grew (by omega), h.b1.turns k (by omega), h.b2.turns k (by omega), h.b3.turns k (by omega), own_turns h.own k hb, h.rows.map fun y cs hy => hy.imp fun A xs hx => hx.mapT hm k⟩
theorem OfI.snoc (h : OfI u g1 g2 g3 B0 tcs n l A c css wr) {x : Cst} {cs : List Value} {A' : Option Addr} {c' : Nat} (hx : CstR (MRow u wr) x cs)
    (ho : w'.ownsRow B0 40 3 (.slice A' (l.length + 1) c') (l.length + 1) (css.flatten ++ cs)) (hb : wr.grownBy w' (Value.slice A l.length c).ownBlock) :
    OfI u g1 g2 g3 B0 tcs n (l ++ [x]) A' c' (css ++ [cs]) (w'.setCell ⟨g3, 1, none⟩ (.slice A' (l.length + 1) c')) := by
  obtain ⟨o1, o2, o3, o4⟩ := h.ord
  have hrow : ∀ k, (Value.slice A l.length c).ownBlock = some k → B0 ≤ k := own_base h.own
  have hg : Grew u w' := h.grew.grown hb fun k hk => by have := hrow k hk; omega
  have b1 := h.b1.grown hb (fun e => by have := hrow _ e; omega)
  have b2 := h.b2.grown hb (fun e => by have := hrow _ e; omega)
  have b3 := h.b3.grown hb (fun e => by have := hrow _ e; omega)
  have hlen : cs.length = 3 := by obtain ⟨_, _, rfl, _⟩ := hx; rfl
  have H : ∀ B xs, MRow u wr 3 B xs → MRow u (w'.setCell ⟨g3, 1, none⟩ (.slice A' (l.length + 1) c')) 3 B xs := fun B xs hm => (hm.grown h.own neCS hb).turns ((Turns.refl _ _).set _ _) b3 neST
  refine ⟨h.ord, hg.setCell (a := ⟨g3, 1, none⟩) (by show u.heap.size ≤ g3; omega) _, b1.far (by show g1 ≠ g3; omega) _, b2.far (by show g2 ≠ g3; omega) _, ?_, ?_, ?_⟩
  · rw [List.length_append]
    have := b3.set 1 (.slice A' (l.length + 1) c')
    simpa using this
  · rw [List.length_append, List.flatten_append]
    simp only [List.flatten_cons, List.flatten_nil, List.append_nil]
    exact ownsRow_setCell_below ho (a := ⟨g3, 1, none⟩) o4 _
  · exact (h.rows.map fun y ds hy => hy.imp H).snoc (hx.imp H) hlen
theorem OfI.res (h : OfI u g1 g2 g3 B0 tcs n l A c css wr) (v0 v1 : Value) :
    Grew u ((wr.setCell ⟨g2, 0, none⟩ v0).setCell ⟨g2, 1, none⟩ v1) ∧ CstsR (PRow ((wr.setCell ⟨g2, 0, none⟩ v0).setCell ⟨g2, 1, none⟩ v1)) A l := by
  obtain ⟨o1, o2, o3, o4⟩ := h.ord
  have hg : Grew u ((wr.setCell ⟨g2, 0, none⟩ v0).setCell ⟨g2, 1, none⟩ v1) := Grew.setCell (Grew.setCell h.grew (a := ⟨g2, 0, none⟩) (by show u.heap.size ≤ g2; omega) _) (a := ⟨g2, 1, none⟩) (by show u.heap.size ≤ g2; omega) _
  have ho := ownsRow_setCell_below (ownsRow_setCell_below h.own (a := ⟨g2, 0, none⟩) (by show g2 < _; omega) v0) (a := ⟨g2, 1, none⟩) (by show g2 < _; omega) v1
  obtain ⟨A', c', e, hr⟩ := own_row ho
  injection e with e _ _
  subst e
  have k := ((Turns.refl wr g2).set 0 v0).set 1 v1
  exact ⟨hg, css, h.rows.map fun y cs hy => hy.imp fun B xs hm => (hm.turns k h.b2 neST).plain hg, hr⟩
end
def HOfAt (u : World) (g1 g2 g3 mb : Nat) (tcs : Array Value) (t : Tb) (nc : Nat) (v : Value) (wr : World) : Prop :=
  ∃ (i : Nat) (A : Option Addr) (c : Nat) (css : List (List Value)), i ≤ nc ∧ v = .int .i64 i ∧ OfI u g1 g2 g3 (mb + 1) tcs (t.rows.length : Nat) (colsC t i) A c css wr ∧ ∃ cc m, MapC wr mb cc m
theorem box2T {w : World} {g : Nat} {v0 v1 v2 : Value} (h : Blok w g 25 #[v0, v1, v2]) : g < w.heap.size ∧ w.cell? ⟨g, 0, none⟩ = some v0 ∧ w.cell? ⟨g, 1, none⟩ = some v1 ∧ w.cell? ⟨g, 2, none⟩ = some v2 := ⟨h.lt, h.cell 0, h.cell 1, h.cell 2⟩
end Go.Proofs.Ytdohfbpjmnhhmaa

/- Layer 27: what is true of a table, by the program: the walk. Condition: no more than a thousand rows and columns. -/
namespace Go.Proofs.Ytdohfbpjmnhhmaa
open Go.RowKit
attribute [local go_sem] more_cell more_frozen more_more more_setCell more_of_drew more_of_drewN lt_more le_more past_cell past_cell2 past_frozen past_frozen2 past_setCell past_setCell2 mid_cell mid_frozen mid_setCell mk_mapH
attribute [local go_sem ↓] Go.wp_at_zero Go.wp_at_succ

set_option maxHeartbeats 4000000 in
set_option maxRecDepth 100000 in
theorem hof_any (t : Tb) (ho : TbOk t) (nr : Nat) (hnr : t.rows.length = nr) (hr1 : nr ≤ 1000) (nc : Nat) (hnc : t.cols.length = nc) (hc1 : nc ≤ 1000) (C : Option Addr) (k : Nat) (B : Option Addr) (j : Nat) (w : World) (rb : RwsR (PRow w) B t.rows) :
    Calls Try.prog 8 #[.agg #[.string t.name, .slice C nc k, .slice B nr j]] w (HeldF w (ofS t)) := by
  have HCol : Hid (∀ (i : Nat) W mb, Grew w W → w.heap.size ≤ mb → MapC W mb 0 [] → Calls Try.prog 23 #[.slice B nr j, .int .i64 i, .map (some mb)] W (ColPF W mb (colC (colV t.rows i)))) := Lib.hid fun i W mb hW hmb hM =>
    hcol_any t.rows ho.2.2 nr hnr hr1 i B j w W hW mb hmb hM rb
  have HRn := Lib.hid hnr
  have HFin : Hid (∀ A c W, Grew w W → CstsR (PRow W) A (colsC t nc) → HeldF w (ofS t) (.returned (.agg #[.int .i64 nr, .slice A nc c])) W) := Lib.hid fun A c W hW hR => by
    have e : ofS t = ⟨(nr : Nat), colsC t nc⟩ := by unfold ofS; rw [hnr, hnc]
    rw [e]
    exact ⟨A, c, by show _ = Ending.returned (.agg #[.int .i64 nr, .slice A (colsC t nc).length c]); rw [colsC_len], hW, hR⟩
  clear rb ho hnr hnc
  obtain ⟨W0, hW0⟩ : ∃ W0, W0 = (((w.alloc (.cells #[.string t.name, .slice C nc k, .slice B nr j] 25)).alloc (.cells #[.int .i64 0, .slice none 0 0] 31)).alloc (.cells #[.int .i64 nr, .slice none 0 0] 31)).alloc (.map #[] 0) := ⟨_, rfl⟩
  have HI0 : Hid (HOfAt w w.heap.size (w.heap.size + 1) (w.heap.size + 1 + 1) (w.heap.size + 1 + 1 + 1) #[.string t.name, .slice C nc k, .slice B nr j] t nc (.int .i64 0) W0) := Lib.hid (by
    rw [hW0]
    refine ⟨0, none, 0, [], Nat.zero_le _, rfl, ⟨by omega, (((Grew.refl w).alloc _).alloc _ |>.alloc _).alloc _, (((Blok.new _ _ _ _ rfl).alloc _).alloc _).alloc _, ((Blok.new _ _ _ _ (by simp)).alloc _).alloc _, ?_, own_none _ _ _ _, ListR.nil⟩, 0, [], mapC_new _ _ (by simp)⟩
    rw [HRn.out]
    exact (Blok.new _ _ _ _ (by simp)).alloc _)
  go_enter Try.func8, Try.ntmps8
  go_upto_region 3 with fail
  rw [← hW0]
  clear hW0
  obtain ⟨g1, hg1⟩ : ∃ g1, w.heap.size = g1 := ⟨_, rfl⟩
  have HGw : Hid (w.heap.size ≤ g1) := Lib.hid (by omega)
  rw [hg1] at HI0 ⊢
  generalize hg4 : g1 + 1 + 1 + 1 = mb at *
  generalize hg3 : g1 + 1 + 1 = g3 at *
  generalize hg2 : g1 + 1 = g2 at *
  have HOrd : Hid (w.heap.size ≤ mb ∧ g3 < mb) := Lib.hid (by omega)
  clear hg1 hg2 hg3 hg4
  obtain ⟨tc, htc⟩ : ∃ tc, tc = #[Value.string t.name, .slice C nc k, .slice B nr j] := ⟨_, rfl⟩
  have HI00 := HI0
  obtain ⟨b1, _⟩ : ∃ b, Blok W0 g1 25 b := by obtain ⟨_, _, _, _, _, _, hI, _⟩ := HI0.out; exact ⟨_, hI.b1⟩
  obtain ⟨y0, y1, y2, y3⟩ : g1 < W0.heap.size ∧ W0.cell? ⟨g1, 0, none⟩ = some (.string t.name) ∧ W0.cell? ⟨g1, 1, none⟩ = some (.slice C nc k) ∧ W0.cell? ⟨g1, 2, none⟩ = some (.slice B nr j) := by obtain ⟨_, _, _, _, _, _, hI, _⟩ := HI0.out; exact box2T hI.b1
  go_wp2
  go_loopw [14] (fun v wr => HOfAt w g1 g2 g3 mb #[.string t.name, .slice C nc k, .slice B nr j] t nc v wr) (fun v _ => nc - (intOf v).toNat)
  case atStart => exact HI0.out
  case round =>
    obtain ⟨i, A, c, css, hi, rfl, hI, cc, m, hM⟩ := hrel
    have HI := Lib.hid hI
    have HNx := Lib.hid (colsC_snoc t i)
    have hll := colsC_len t i
    by_cases h : i < nc
    · obtain ⟨w1, hcl, hM1, hgb1⟩ := mapC_clear hM
      have HI1 := Lib.hid ((HI.out.turn hM (Turns.of_grown hgb1) HOrd.out.2 (Nat.lt_succ_self _)).on (Grew.refl w1).drew)
      have HM1 := Lib.hid (hM1.grew (Grew.refl w1).drew)
      have HTo : Hid (∀ A c css W, OfI w g1 g2 g3 (mb + 1) #[.string t.name, .slice C nc k, .slice B nr j] (t.rows.length : Nat) (colsC t (i + 1)) A c css W → (∃ cc m, MapC W mb cc m) → HOfAt w g1 g2 g3 mb #[.string t.name, .slice C nc k, .slice B nr j] t nc (.int .i64 ((i : Int) + 1)) W) := Lib.hid fun A c css W h1 h2 => ⟨i + 1, A, c, css, by omega, by go_num, h1, h2⟩
      have HCi := Lib.hid (HCol.out i w1.drew mb HI1.out.grew HOrd.out.1 HM1.out)
      rw [HNx.out] at HTo
      clear hI hM hM1 hgb1 HI HI0 HCol HFin HNx
      generalize colsC t i = l at *
      generalize colC (colV t.rows i) = x at *
      rw [HRn.out] at HI1 HTo
      subst hll
      obtain ⟨xu, xn, xm⟩ := x
      go_upto_region 7 with fail
      have hS0 : Blok w1.drew g1 25 #[.string t.name, .slice C nc k, .slice B nr j] ∧ Blok w1.drew g3 31 #[.int .i64 nr, .slice A l.length c] := ⟨HI1.out.b1, HI1.out.b3⟩
      clear hcl
      refine wp_region_last (fun W => Blok W g1 25 #[.string t.name, .slice C nc k, .slice B nr j] ∧ Blok W g3 31 #[.int .i64 nr, .slice A l.length c]) 10 rfl (by kernel_rfl) ?_
      refine last_take 0 (v := ?_) rfl (by kernel_rfl) (by kernel_rfl) (by kernel_rfl) (by kernel_rfl) (fun _ _ _ h => h) (by rfl) ?_ hS0 ?_
      rotate_left
      · (intro W hW; go_simp; with_reducible rfl)
      refine last_take 2 (v := ?_) rfl (by kernel_rfl) (by kernel_rfl) (by kernel_rfl) (by kernel_rfl) (fun _ _ _ h => h) (by rfl) ?_ hS0 ?_
      rotate_left
      · (intro W hW; go_simp; with_reducible rfl)
      refine last_take 4 (v := ?_) rfl (by kernel_rfl) (by kernel_rfl) (by kernel_rfl) (by kernel_rfl) (fun _ _ _ h => h) (by rfl) ?_ hS0 ?_
      rotate_left
      · (intro W hW; go_simp; with_reducible rfl)
      refine last_take 5 (v := ?_) rfl (by kernel_rfl) (by kernel_rfl) (by kernel_rfl) (by kernel_rfl) (fun _ _ _ h => h) (by rfl) ?_ hS0 ?_
      rotate_left
      · (intro W hW; go_simp; with_reducible rfl)
      refine last_norm (a' := ?_) ?_ ?_
      rotate_left
      · (go_simp; with_reducible rfl)
      refine last_take 1 (v := ?_) rfl (by kernel_rfl) (by kernel_rfl) (by kernel_rfl) (by kernel_rfl) (fun _ _ _ h => h) (by rfl) ?_ hS0 ?_
      rotate_left
      · (intro W hW; have q := hW.2.cell 1; simp at q; go_simp; with_reducible rfl)
      refine last_norm (a' := ?_) ?_ ?_
      rotate_left
      · (go_simp; with_reducible rfl)
      refine last_take 3 (v := ?_) rfl (by kernel_rfl) (by kernel_rfl) (by kernel_rfl) (by kernel_rfl) (fun _ _ _ h => h) (by rfl) ?_ hS0 ?_
      rotate_left
      · (intro W hW; have q := hW.1.cell 2; simp at q; go_simp; with_reducible rfl)
      refine last_norm (a' := ?_) ?_ ?_
      rotate_left
      · (go_simp; with_reducible rfl)
      refine last_call 6 (by kernel_rfl) (by kernel_rfl) rfl (by rfl) (fun K hK => ?_)
      go_simp
      go_wp2_with (go_at_call 23; (with_reducible refine HCi.out.mono ?_); rintro e w3 ⟨B3, k3, rfl, hk3, t3, tr3, cc3, m3, hM3⟩; have HOO := HI1.out.ord; have hS3 := And.intro (hS0.1.turns t3 (by have := HOrd.out; omega)) (hS0.2.turns t3 (by have := HOrd.out; omega)); have HI3 := Lib.hid (HI1.out.turn HM1.out t3 HOrd.out.2 (Nat.lt_succ_self _)); have HM3 := Lib.hid hM3; have HTr3 := Lib.hid (And.intro hk3 (And.intro tr3 HI1.out.grew.size)); clear t3 hM3 tr3 hk3)
      refine hK.out _ _ hS3 ?_
      clear hK K
      refine last_call 7 (by kernel_rfl) (by kernel_rfl) rfl (by rfl) (fun K hK => ?_)
      go_simp
      go_wp2_with fail
      refine hK.out _ _ ⟨hS3.1.alloc _, hS3.2.alloc _⟩ ?_
      clear hK K
      have HI4 := Lib.hid (HI3.out.on ((Grew.refl w3).alloc (.cells #[.int .i64 xu, .int .i64 xn, .slice B3 xm.length k3] 40)))
      have HX4 : Hid (CstR (MRow w (w3.alloc (.cells #[.int .i64 xu, .int .i64 xn, .slice B3 xm.length k3] 40))) ⟨xu, xn, xm⟩ [.int .i64 xu, .int .i64 xn, .slice B3 xm.length k3]) := Lib.hid ⟨B3, k3, rfl, HTr3.out.1, Or.inr ((HTr3.out.2.1.low HTr3.out.2.2).grew ((Grew.refl w3).alloc _))⟩
      have HM4 := Lib.hid (HM3.out.grew ((Grew.refl w3).alloc (.cells #[.int .i64 xu, .int .i64 xn, .slice B3 xm.length k3] 40)))
      have hsz3 : mb + 1 ≤ w3.heap.size := HM3.out.lt
      have hrow : ∀ q, (Value.slice A l.length c).ownBlock = some q → mb + 1 ≤ q := own_base HI3.out.own
      refine last_call 8 (by kernel_rfl) (by kernel_rfl) rfl (by rfl) (fun K hK => ?_)
      refine wp_appB (.tmp 19) (.tmp 25) 29 40 3 rfl (mb + 1) (.agg #[.int .i64 0, .int .i64 0, .slice none 0 0]) 40 Try.underlying29 infoCs rfl (by decide) (by decide) _ l.length css.flatten rfl HI4.out.own _ 1 1 [.int .i64 xu, .int .i64 xn, .slice B3 xm.length k3] rfl rfl (row_new _ _ _ #[.int .i64 xu, .int .i64 xn, .slice B3 xm.length k3] rfl) (by simp; exact ⟨rfl, rfl, rfl⟩) (by omega) (by simp; omega) ?_
      intro A6 c6 w6 ho6 hg6
      have hS6 : Blok w6 g1 25 #[.string t.name, .slice C nc k, .slice B nr j] ∧ Blok w6 g3 31 #[.int .i64 nr, .slice A l.length c] := ⟨HI4.out.b1.grown hg6 (fun e => by have := hrow _ e; have := HOrd.out; omega), HI4.out.b3.grown hg6 (fun e => by have := hrow _ e; have := HOrd.out; omega)⟩
      refine hK.out _ _ hS6 ?_
      clear hK K
      refine last_take 9 (v := ?_) rfl (by kernel_rfl) (by kernel_rfl) (by kernel_rfl) (by kernel_rfl) (fun _ _ _ h => h) (by rfl) ?_ hS6 ?_
      rotate_left
      · (intro W hW; go_simp; with_reducible rfl)
      refine last_norm (a' := ?_) ?_ ?_
      rotate_left
      · (go_simp; with_reducible rfl)
      have d1 := hS6.2.cell 1
      have z1 := hS6.2.thaw 1
      have zl := hS6.2.lt
      simp at d1
      have HF : Hid (HOfAt w g1 g2 g3 mb #[.string t.name, .slice C nc k, .slice B nr j] t nc (.int .i64 ((l.length : Int) + 1)) (w6.setCell ⟨g3, 1, none⟩ (.slice A6 (l.length + 1) c6))) := Lib.hid (HTo.out _ _ _ _ (HI4.out.snoc HX4.out ho6 hg6) ⟨_, _, (HM4.out.kept hg6 (fun e => by have := hrow _ e.symm; omega)).turns ((Turns.refl w6 g3).set 1 _) (by have := HOrd.out; omega)⟩)
      clear ho6 hg6
      refine last_last (by kernel_rfl) (by kernel_rfl) rfl (by rfl) (fun K hK => ?_)
      go_simp
      go_wp2_with fail
      refine hK.out _ _ ?_
      clear hK K
      go_wp2
      exact ⟨HF.out, by simp only [intOf]; omega⟩
    · obtain rfl : i = nc := by omega
      have HD := Lib.hid (HI.out.res (.int .i64 nr) (.slice A i c))
      have HE := Lib.hid (HFin.out A c _ HD.out.1 HD.out.2)
      have HB3 := Lib.hid HI.out.b3
      have HB2 := Lib.hid HI.out.b2
      rw [HRn.out, hll] at HB3
      obtain ⟨z1, z2, z3, z4, z5⟩ := boxS2 HB3.out
      obtain ⟨v1, v2, v3, v4, v5⟩ := boxS2 HB2.out
      have HO := HI.out.ord
      clear HFin HCol HD hI hM HI HNx hll HI0 HI00 HO
      go_wp2
      have bf := (HB2.out.set 0 (.int .i64 nr)).set 1 (.slice A i c)
      have q0 := bf.cell 0
      have q1 := bf.cell 1
      simp at q0 q1
      exact bodyPost_ret (v := .agg #[.int .i64 nr, .slice A i c]) (by simp [results, Try.results8, go_sem, q0, q1]) rfl HE.out
end Go.Proofs.Ytdohfbpjmnhhmaa

/- Layer 27: what is true of a column, by the document: the state of its walk. No condition. -/
namespace Go.Proofs.Ytdohfbpjmnhhmaa
open Go.RowKit
attribute [local go_sem] more_cell more_frozen more_more more_setCell more_of_drew more_of_drewN lt_more le_more past_cell past_cell2 past_frozen past_frozen2 past_setCell past_setCell2 mid_cell mid_frozen mid_setCell
attribute [local go_sem ↓] Go.wp_at_zero Go.wp_at_succ

theorem neVI : (64 : TypeId) ≠ 3 := by decide
theorem infoV27 : (Try.prog.info? 64).map (fun i => (i.zero, i.size, i.bytes)) = some (some (.agg #[.int .i64 0, .int .i64 0, .string ⟨#[]⟩]), 3, 32) := by kernel_rfl
def eqW (x y : Vl) : Bool := sameV x.k x.i x.s y.k y.i y.s
theorem eqW_iff (x y : Vl) : eqW x y = true ↔ x = y := sameV_iff x y
theorem any_eqW (l : List Vl) (v : Vl) : l.any (fun x => eqW x v) = decide (v ∈ l) := by
  rw [Bool.eq_iff_iff, List.any_eq_true, decide_eq_true_iff]
  constructor
  · rintro ⟨x, hx, e⟩
    rw [(eqW_iff x v).1 e] at hx
    exact hx
  · intro h
    exact ⟨v, h, (eqW_iff v v).2 rfl⟩
theorem Blok.otherH {w w' : World} {g base size n : Nat} {e t : TypeId} {cs : Array Value} {v : Value} {xs : List Value} (h : Blok w g t cs) (ho : w.ownsRow base e size v n xs) (hne : t ≠ e) (k : w.grownBy w' v.ownBlock) : Blok w' g t cs :=
  h.grown k fun he => by
    rcases ho.2 with ⟨rfl, _⟩ | ⟨q, cap, cur2, rfl, _, hh2, _⟩
    · cases he
    · simp [Value.ownBlock] at he
      subst he
      unfold Blok at h
      rw [hh2] at h
      injection h with h
      injection h with _ h _
      exact hne h.symm
/-- What lies at a place of a row. -/
theorem rowCol {rows : List (List Vl)} {A : Option Addr} {u : World} (ra : RwsR (PRow u) A rows) (c j : Nat) (hj : j < rows.length) : ∃ b o B k m, A = some ⟨b, o, none⟩ ∧ (∀ W, Grew u W → b < W.heap.size ∧ W.cell? ⟨b, o + j, none⟩ = some (.slice B m k)) ∧
      ((m ≤ c ∧ (colV rows c).getD j default = default) ∨ (c < m ∧ ∃ b2 o2, B = some ⟨b2, o2, none⟩ ∧ ∀ W, Grew u W → b2 < W.heap.size ∧ W.cell? ⟨b2, o2 + c * 3, none⟩ = some (.int .i64 ((colV rows c).getD j default).k) ∧ W.cell? ⟨b2, o2 + c * 3 + 1, none⟩ = some (.int .i64 ((colV rows c).getD j default).i) ∧ W.cell? ⟨b2, o2 + c * 3 + 2, none⟩ = some (.string ((colV rows c).getD j default).s))) := by
  obtain ⟨b, o, B, k, hA, hb, hcl, _, hr⟩ := rwsR_at ra hj
  have e : (colV rows c).getD j default = rows[j].getD c default := by
    rw [List.getD_eq_getElem?_getD, List.getElem?_eq_getElem (by rw [colV_len]; exact hj)]
    exact colV_at hj
  refine ⟨b, o, B, k, rows[j].length, hA, fun W hW => ⟨Nat.lt_of_lt_of_le hb hW.size, (hW.cell (a := ⟨b, o + j, none⟩) hb).trans hcl⟩, ?_⟩
  rw [e]
  rcases Nat.lt_or_ge c rows[j].length with h | h
  · obtain ⟨b2, o2, hB, hb2, c0, c1, c2⟩ := vlsR_at hr h
    have e2 : rows[j].getD c default = rows[j][c] := by rw [List.getD_eq_getElem?_getD, List.getElem?_eq_getElem h]; rfl
    rw [e2]
    exact Or.inr ⟨h, b2, o2, hB, fun W hW => ⟨Nat.lt_of_lt_of_le hb2 hW.size, (hW.cell (a := ⟨b2, o2 + c * 3, none⟩) hb2).trans c0, (hW.cell (a := ⟨b2, o2 + c * 3 + 1, none⟩) hb2).trans c1, (hW.cell (a := ⟨b2, o2 + c * 3 + 2, none⟩) hb2).trans c2⟩⟩
  · exact Or.inl ⟨h, by rw [List.getD_eq_getElem?_getD, List.getElem?_eq_none h]; rfl⟩
/-- While a column's values are gone through by the document. -/
structure RcS (u : World) (g2 g4 g5 : Nat) (tcs : Array Value) (nn : Nat) (ns : List Int) (A : Option Addr) (cA : Nat) (ms : List Vl) (M : Option Addr) (cM : Nat) (css : List (List Value)) (wr : World) : Prop where
  ord : u.heap.size ≤ g2 ∧ g2 < g4 ∧ g4 < g5
  grew : Grew u wr
  b2 : Blok wr g2 25 tcs
  b4 : Blok wr g4 40 #[.int .i64 0, .int .i64 0, .slice none 0 0]
  b5 : Blok wr g5 40 #[.int .i64 0, .int .i64 nn, .slice none 0 0]
  own : wr.ownsRow (g5 + 1) 3 1 (.slice A ns.length cA) ns.length (iV ns)
  met : wr.ownsRow (g5 + 1) 64 3 (.slice M ms.length cM) ms.length css.flatten
  mrs : ListR VlR 3 ms css
/-- Rows of one's own of two types do not touch one another. -/
theorem own_apart {w w' : World} {b1 b2 s1 s2 n1 n2 : Nat} {e1 e2 : TypeId} {v1 v2 : Value} {xs ys : List Value} (h : w.ownsRow b1 e1 s1 v1 n1 xs) (ho : w.ownsRow b2 e2 s2 v2 n2 ys) (hne : e1 ≠ e2) (k : w.grownBy w' v2.ownBlock) : w'.ownsRow b1 e1 s1 v1 n1 xs := by
  refine own_grown h k fun q hq e => ?_
  have hm : ∀ {b e s v n} {zs : List Value}, w.ownsRow b e s v n zs → v.ownBlock = some q → ∃ cur, w.heap[q]? = some (.cells cur e (0, 0)) := by
    intro b e s v n zs h hq
    rcases h.2 with ⟨rfl, _⟩ | ⟨g, cap, cur, rfl, _, hh, _⟩
    · cases hq
    · injection hq with hq
      subst hq
      exact ⟨cur, hh⟩
  obtain ⟨c1, h1⟩ := hm h hq
  obtain ⟨c2, h2⟩ := hm ho e.symm
  rw [h1] at h2
  injection h2 with h2
  injection h2 with _ h2 _
  exact hne h2
section
variable {u : World} {g2 g4 g5 : Nat} {tcs : Array Value} {nn : Nat} {ns : List Int} {A : Option Addr} {cA : Nat} {ms : List Vl} {M : Option Addr} {cM : Nat} {css : List (List Value)} {wr w' : World}
theorem RcS.on (h : RcS u g2 g4 g5 tcs nn ns A cA ms M cM css wr) (k : Grew wr w') : RcS u g2 g4 g5 tcs nn ns A cA ms M cM css w' :=
  ⟨h.ord, h.grew.trans k, h.b2.grew k, h.b4.grew k, h.b5.grew k, own_grewO h.own k, own_grewO h.met k, h.mrs⟩
theorem RcS.null (h : RcS u g2 g4 g5 tcs nn ns A cA ms M cM css wr) : RcS u g2 g4 g5 tcs (nn + 1) ns A cA ms M cM css (wr.setCell ⟨g5, 1, none⟩ (.int .i64 ((nn : Int) + 1))) := by
  obtain ⟨o1, o2, o3⟩ := h.ord
  refine ⟨h.ord, h.grew.setCell (a := ⟨g5, 1, none⟩) (by show u.heap.size ≤ g5; omega) _, h.b2.far (by show g2 ≠ g5; omega) _, h.b4.far (by show g4 ≠ g5; omega) _, ?_, ownsRow_setCell_below h.own (a := ⟨g5, 1, none⟩) (Nat.lt_succ_self _) _, ownsRow_setCell_below h.met (a := ⟨g5, 1, none⟩) (Nat.lt_succ_self _) _, h.mrs⟩
  have := h.b5.set 1 (.int .i64 ((nn : Int) + 1))
  simpa using this
theorem RcS.num (h : RcS u g2 g4 g5 tcs nn ns A cA ms M cM css wr) {x : Int} {A' : Option Addr} {c' : Nat} (k : wr.grownBy w' (Value.slice A ns.length cA).ownBlock) (ho : w'.ownsRow (g5 + 1) 3 1 (.slice A' (ns.length + 1) c') (ns.length + 1) (iV ns ++ [.int .i64 x])) : RcS u g2 g4 g5 tcs nn (ns ++ [x]) A' c' ms M cM css w' := by
  obtain ⟨o1, o2, o3⟩ := h.ord
  have hb := own_base h.own
  refine ⟨h.ord, h.grew.grown k (fun q e => by have := hb q e; omega), h.b2.grown k (fun e => by have := hb _ e; omega), h.b4.grown k (fun e => by have := hb _ e; omega), h.b5.grown k (fun e => by have := hb _ e; omega), ?_, own_apart h.met h.own neVI k, h.mrs⟩
  rw [List.length_append, ← iV_snoc]
  exact ho
theorem RcS.newly (h : RcS u g2 g4 g5 tcs nn ns A cA ms M cM css wr) {x : Vl} {M' : Option Addr} {c' : Nat} (k : wr.grownBy w' (Value.slice M ms.length cM).ownBlock) (ho : w'.ownsRow (g5 + 1) 64 3 (.slice M' (ms.length + 1) c') (ms.length + 1) (css.flatten ++ [.int .i64 x.k, .int .i64 x.i, .string x.s])) : RcS u g2 g4 g5 tcs nn ns A cA (ms ++ [x]) M' c' (css ++ [[.int .i64 x.k, .int .i64 x.i, .string x.s]]) w' := by
  obtain ⟨o1, o2, o3⟩ := h.ord
  have hb := own_base h.met
  refine ⟨h.ord, h.grew.grown k (fun q e => by have := hb q e; omega), h.b2.grown k (fun e => by have := hb _ e; omega), h.b4.grown k (fun e => by have := hb _ e; omega), h.b5.grown k (fun e => by have := hb _ e; omega), own_apart h.own h.met (fun e => neVI e.symm) k, ?_, h.mrs.snoc rfl rfl⟩
  rw [List.length_append, List.flatten_append]
  simp only [List.flatten_cons, List.flatten_nil, List.append_nil]
  exact ho
end
def RcAt (u : World) (g2 g4 g5 : Nat) (tcs : Array Value) (l : List Vl) (n : Nat) (v6 v7 v8 : Value) (wr : World) : Prop :=
  ∃ (j : Nat) (A : Option Addr) (cA : Nat) (M : Option Addr) (cM : Nat) (css : List (List Value)), j ≤ n ∧ v8 = .int .i64 j ∧ v6 = .slice A (numbL (l.take j)).length cA ∧ v7 = .slice M (metL (l.take j)).length cM ∧ RcS u g2 g4 g5 tcs (nullN (l.take j)) (numbL (l.take j)) A cA (metL (l.take j)) M cM css wr
def SeenAt (wq : World) (ms : List Vl) (v : Vl) (s k : Value) (wr : World) : Prop := ∃ q : Nat, q ≤ ms.length ∧ k = .int .i64 q ∧ s = .bool ((ms.take q).any fun x => eqW x v) ∧ Grew wq wr
def RColF (u : World) (x : Cst) (e : Ending) (w' : World) : Prop := ∃ D k, e = .returned (.agg #[.int .i64 x.u, .int .i64 x.n, .slice D x.m.length k]) ∧ x.m.length ≤ k ∧ Grew u w' ∧ TRow u.heap.size w' 3 D (iV x.m)
end Go.Proofs.Ytdohfbpjmnhhmaa

/- Layer 27: what is true of a column, by the document: the walk. Condition: no more than a thousand rows. -/
namespace Go.Proofs.Ytdohfbpjmnhhmaa
open Go.RowKit
attribute [local go_sem] more_cell more_frozen more_more more_setCell more_of_drew more_of_drewN lt_more le_more past_cell past_cell2 past_frozen past_frozen2 past_setCell past_setCell2 mid_cell mid_frozen mid_setCell
attribute [local go_sem ↓] Go.wp_at_zero Go.wp_at_succ

theorem metAt {u : World} {g2 g4 g5 : Nat} {tcs : Array Value} {nn : Nat} {ns : List Int} {A : Option Addr} {cA : Nat} {ms : List Vl} {M : Option Addr} {cM : Nat} {css : List (List Value)} {wr : World} (h : RcS u g2 g4 g5 tcs nn ns A cA ms M cM css wr) {q : Nat} (hq : q < ms.length) :
    ∃ b o, M = some ⟨b, o, none⟩ ∧ b < wr.heap.size ∧ wr.cell? ⟨b, o + q * 3, none⟩ = some (.int .i64 ms[q].k) ∧ wr.cell? ⟨b, o + q * 3 + 1, none⟩ = some (.int .i64 ms[q].i) ∧ wr.cell? ⟨b, o + q * 3 + 2, none⟩ = some (.string ms[q].s) := by
  obtain ⟨A', c', e, hr⟩ := own_row h.met
  injection e with e _ _
  subst e
  exact vlsR_at (w := wr) ⟨css, h.mrs, hr⟩ hq
set_option maxHeartbeats 8000000 in
set_option maxRecDepth 100000 in
theorem rcol_any (t : Tb) (n : Nat) (hn : t.rows.length = n) (hn1 : n ≤ 1000) (nc : Nat) (c : Nat) (C : Option Addr) (k : Nat) (A : Option Addr) (jr : Nat) (u : World) (ra : RwsR (PRow u) A t.rows) :
    Calls Try.prog 24 #[.agg #[.string t.name, .slice C nc k, .slice A n jr], .int .i64 c] u (RColF u (colC (colV t.rows c))) := by
  have HRow : Hid (∀ j, j < n → _) := Lib.hid fun j hj => rowCol ra c j (by omega)
  have HLn : Hid ((colV t.rows c).length = n) := Lib.hid ((colV_len t.rows c).trans hn)
  clear ra hn
  generalize colV t.rows c = L at *
  have HTk : Hid (∀ j, j < n → L.take (j + 1) = L.take j ++ [L.getD j default]) := Lib.hid fun j hj => by
    have hj' : j < L.length := by rw [HLn.out]; exact hj
    rw [List.take_succ_eq_append_getElem hj', List.getD_eq_getElem?_getD, List.getElem?_eq_getElem hj']
    rfl
  have HNl : Hid (∀ j, j ≤ n → nullN (L.take j) ≤ 1000 ∧ (numbL (L.take j)).length ≤ 1000 ∧ (metL (L.take j)).length ≤ 1000) := Lib.hid fun j hj => by
    have h1 := nullN_le (L.take j)
    have h2 := numbL_len (L.take j)
    have h3 := metL_le (L.take j)
    rw [List.length_take] at h1 h2 h3
    omega
  obtain ⟨W0, hW0⟩ : ∃ W0, W0 = ((u.alloc (.cells #[.string t.name, .slice C nc k, .slice A n jr] 25)).alloc (.cells #[.int .i64 0, .int .i64 0, .slice none 0 0] 40)).alloc (.cells #[.int .i64 0, .int .i64 0, .slice none 0 0] 40) := ⟨_, rfl⟩
  have HS0 : Hid (RcS u u.heap.size (u.heap.size + 1) (u.heap.size + 1 + 1) #[.string t.name, .slice C nc k, .slice A n jr] 0 [] none 0 [] none 0 [] W0) := Lib.hid (by
    rw [hW0]
    exact ⟨by omega, ((Grew.refl u).alloc _ |>.alloc _).alloc _, ((Blok.new _ _ _ _ rfl).alloc _).alloc _, (Blok.new _ _ _ _ (by simp)).alloc _, Blok.new _ _ _ _ (by simp), own_none _ _ _ _, own_none _ _ _ _, ListR.nil⟩)
  go_enter Try.func24, Try.ntmps24
  go_upto_region 2 with fail
  rw [← hW0]
  clear hW0
  generalize hg5 : u.heap.size + 1 + 1 = g5 at *
  generalize hg4 : u.heap.size + 1 = g4 at *
  obtain ⟨g2, hg2⟩ : ∃ g2, u.heap.size = g2 := ⟨_, rfl⟩
  rw [hg2] at HS0 ⊢
  clear hg2 hg4 hg5
  go_wp2
  go_loopw [6, 7, 8] (fun v6 v7 v8 wr => RcAt u g2 g4 g5 #[.string t.name, .slice C nc k, .slice A n jr] L n v6 v7 v8 wr) (fun _ _ i _ => n - (intOf i).toNat)
  case atStart => exact ⟨0, none, 0, none, 0, [], Nat.zero_le _, rfl, rfl, rfl, HS0.out⟩
  case round =>
    obtain ⟨j, A1, c1, M, cM, css, hj, rfl, rfl, rfl, hs⟩ := hrel
    obtain ⟨hnn, hns, hms⟩ := HNl.out j hj
    obtain ⟨y0, y1, y2, y3⟩ := box2T hs.b2
    by_cases hjn : j < n
    · have HS := Lib.hid hs
      have HTk1 := Lib.hid (HTk.out j hjn)
      have HMn : Hid ((L.getD j default).k = 0 → metL (L.take j) = metL (L.take (j + 1)) ∧ numbL (L.take j) = numbL (L.take (j + 1)) ∧ nullN (L.take j) + 1 = nullN (L.take (j + 1))) := Lib.hid fun e => by
        rw [HTk1.out]
        exact ⟨(metL_null e).symm, (numbL_not (by rw [e]; decide)).symm, (nullN_null e).symm⟩
      have HMo : Hid (L.getD j default ∈ metL (L.take j) → metL (L.take (j + 1)) = metL (L.take j)) := Lib.hid fun e => by rw [HTk1.out]; exact metL_old e
      have HMw : Hid (¬ (L.getD j default).k = 0 → ¬ L.getD j default ∈ metL (L.take j) → metL (L.take (j + 1)) = metL (L.take j) ++ [L.getD j default]) := Lib.hid fun e1 e => by rw [HTk1.out]; exact metL_new e1 e
      have HNn : Hid (¬ (L.getD j default).k = 0 → nullN (L.take (j + 1)) = nullN (L.take j)) := Lib.hid fun e => by rw [HTk1.out]; exact nullN_not e
      have HNm : Hid ((L.getD j default).k = 1 → numbL (L.take (j + 1)) = numbL (L.take j) ++ [(L.getD j default).i]) := Lib.hid fun e => by rw [HTk1.out]; exact numbL_num e
      have HNo : Hid (¬ (L.getD j default).k = 1 → numbL (L.take (j + 1)) = numbL (L.take j)) := Lib.hid fun e => by rw [HTk1.out]; exact numbL_not e
      have HTo : Hid (∀ A1 cA M cM css wr, RcS u g2 g4 g5 #[.string t.name, .slice C nc k, .slice A n jr] (nullN (L.take (j + 1))) (numbL (L.take (j + 1))) A1 cA (metL (L.take (j + 1))) M cM css wr → RcAt u g2 g4 g5 #[.string t.name, .slice C nc k, .slice A n jr] L n (.slice A1 (numbL (L.take (j + 1))).length cA) (.slice M (metL (L.take (j + 1))).length cM) (.int .i64 ((j : Int) + 1)) wr) := Lib.hid fun A1 cA M cM css wr h => ⟨j + 1, A1, cA, M, cM, css, by omega, by go_num, rfl, rfl, h⟩
      obtain ⟨b, o, B, k', m, rfl, hrow, hval⟩ := HRow.out j hjn
      have HRw := Lib.hid hrow
      have HV := Lib.hid hval
      clear hs hrow hval HRow HTk HNl HTk1 HS0
      generalize nullN (L.take (j + 1)) = nn' at *
      generalize metL (L.take (j + 1)) = ms' at *
      generalize numbL (L.take (j + 1)) = ns' at *
      generalize nullN (L.take j) = nn at *
      generalize metL (L.take j) = ms at *
      generalize numbL (L.take j) = ns at *
      generalize L.getD j default = v at *
      obtain ⟨rb, rc⟩ := HRw.out wr HS.out.grew
      go_upto_region 8 with fail
      obtain ⟨W2, hW2⟩ : ∃ W2, W2 = wr.alloc (.cells #[.int .i64 0, .int .i64 0, .string ⟨#[]⟩] 64) := ⟨_, rfl⟩
      have HB2 : Hid (Blok W2 wr.heap.size 64 #[.int .i64 0, .int .i64 0, .string ⟨#[]⟩]) := Lib.hid (by rw [hW2]; exact Blok.new _ _ _ _ rfl)
      have HG2 : Hid (Grew wr W2) := Lib.hid (by rw [hW2]; exact (Grew.refl wr).alloc _)
      have HS2 := Lib.hid (HS.out.on HG2.out)
      rw [← hW2]
      clear hW2 rb rc y0 y1 y2 y3
      have hwr1 : wr.heap.size ≤ wr.heap.size := Nat.le_refl _
      obtain ⟨g9, hg9⟩ : ∃ g9, wr.heap.size = g9 := ⟨_, rfl⟩
      have HG9 : Hid (wr.heap.size ≤ g9) := Lib.hid (by omega)
      rw [hg9] at HB2 ⊢
      clear hg9 hwr1
      obtain ⟨rb, rc⟩ := HRw.out W2 HS2.out.grew
      obtain ⟨y0, y1, y2, y3⟩ := box2T HS2.out.b2
      rcases HV.out with ⟨hmc, hv⟩ | ⟨hmc, b2, o2, rfl, hcl⟩
      · have E0 : v.k = 0 := by rw [hv]; rfl
        obtain ⟨E1, E2, E3⟩ := HMn.out E0
        have hmc' : (m : Int) ≤ (c : Int) := by omega
        have e1 : decide ((c : Int) < (m : Int)) = false := decide_eq_false (by omega)
        have HF := Lib.hid (HTo.out _ _ _ _ _ _ (by have h := HS2.out.null; rw [E1, E2, E3] at h; exact h))
        obtain ⟨p0, p1, p2, p3, _⟩ := val3_in HB2.out
        obtain ⟨q0, q1, q2, q3, q4, q5, q6⟩ := col3_in HS2.out.b5
        rw [← E2, ← E1] at HF
        clear hv hmc E0 HMn HMo HMw HNn HNm HNo HV HS HS2 E1 E2 E3 HTo
        go_wp2
        exact ⟨HF.out, by simp only [intOf]; omega⟩
      · obtain ⟨rb2, rc0, rc1, rc2⟩ := hcl W2 HS2.out.grew
        have hmc' : (c : Int) < (m : Int) := by omega
        have e1 : decide ((c : Int) < (m : Int)) = true := decide_eq_true (by omega)
        obtain ⟨p0, p1, p2, p3, p4, p5, p6⟩ := val3_in HB2.out
        have HB3 := Lib.hid (val3_set HB2.out (.int .i64 v.k) (.int .i64 v.i) (.string v.s))
        have HG3 := Lib.hid (grew3 HG2.out HG9.out (.int .i64 v.k) (.int .i64 v.i) (.string v.s))
        clear hcl HV
        go_upto_region 10 with fail
        have HS3 := Lib.hid (HS.out.on HG3.out)
        clear HS HS2 HG2 HG3 HB2 p0 p1 p2 p3 p4 p5 p6 rb2 rc0 rc1 rc2 rb rc y0 y1 y2 y3
        generalize (((W2.setCell ⟨g9, 0, none⟩ (.int .i64 v.k)).setCell ⟨g9, 1, none⟩ (.int .i64 v.i)).setCell ⟨g9, 2, none⟩ (.string v.s)) = W3 at *
        obtain ⟨vk, vi, vs⟩ := v
        simp only at *
        obtain ⟨p0, p1, p2, p3, _⟩ := val3_in HB3.out
        by_cases hk0 : vk = 0
        · obtain ⟨E1, E2, E3⟩ := HMn.out hk0
          have HF := Lib.hid (HTo.out _ _ _ _ _ _ (by have h := HS3.out.null; rw [E1, E2, E3] at h; exact h))
          obtain ⟨q0, q1, q2, q3, q4, q5, q6⟩ := col3_in HS3.out.b5
          rw [← E2, ← E1] at HF
          subst hk0
          clear HMn HMo HMw HNn HNm HNo HS3 E1 E2 E3 HTo
          go_wp2
          exact ⟨HF.out, by simp only [intOf]; omega⟩
        · have hk0b : (vk == 0) = false := beq_eq_false_iff_ne.2 hk0
          have E1 := HNn.out hk0
          rw [E1] at HTo
          have HTo2 : Hid ((⟨vk, vi, vs⟩ : Vl) ∈ ms → ∀ A cA M cM css wr, RcS u g2 g4 g5 #[.string t.name, .slice C nc k, .slice (some ⟨b, o, none⟩) n jr] nn ns' A cA ms M cM css wr → RcAt u g2 g4 g5 #[.string t.name, .slice C nc k, .slice (some ⟨b, o, none⟩) n jr] L n (.slice A ns'.length cA) (.slice M ms.length cM) (.int .i64 ((j : Int) + 1)) wr) := Lib.hid fun e => by
            have h := HTo.out
            rw [HMo.out e] at h
            exact h
          have HTo3 : Hid (¬ (⟨vk, vi, vs⟩ : Vl) ∈ ms → ∀ A cA M cM css wr, RcS u g2 g4 g5 #[.string t.name, .slice C nc k, .slice (some ⟨b, o, none⟩) n jr] nn ns' A cA (ms ++ [(⟨vk, vi, vs⟩ : Vl)]) M cM css wr → RcAt u g2 g4 g5 #[.string t.name, .slice C nc k, .slice (some ⟨b, o, none⟩) n jr] L n (.slice A ns'.length cA) (.slice M (ms ++ [(⟨vk, vi, vs⟩ : Vl)]).length cM) (.int .i64 ((j : Int) + 1)) wr) := Lib.hid fun e => by
            have h := HTo.out
            rw [HMw.out hk0 e] at h
            exact h
          clear HMn HMo HMw HNn E1 HTo
          by_cases hk1 : vk = 1
          · have EN := HNm.out hk1
            have hl : (ns ++ [vi]).length = ns.length + 1 := by simp
            rw [EN, hl] at HTo2 HTo3
            clear hl
            have HLt := Lib.hid HS3.out.b5.lt
            have HSa := Lib.hid (HS3.out.on ((Grew.refl W3).alloc (.cells #[.int .i64 vi] 3)))
            have HBa := Lib.hid (HB3.out.alloc (.cells #[.int .i64 vi] 3))
            subst hk1
            clear EN HNm HNo
            go_upto_region 14 with (at_builtin; refine wpList_appB rfl _ _ 38 3 1 rfl (g5 + 1) (.int .i64 0) 8 Try.underlying38 infoI rfl (by decide) (by decide) _ ns.length (iV ns) rfl HSa.out.own _ 1 1 [.int .i64 vi] rfl rfl (row_one _ _ _ _ rfl) (by simp [Value.oneCell']) (by omega) (by rw [World.size_alloc]; have := HLt.out; omega) ?_; intro A9 c9 w6 ho9 hg9; have HS6 := Lib.hid (HSa.out.num hg9 ho9); have HB6 := Lib.hid (HBa.out.otherH HSa.out.own neVI hg9); clear ho9 hg9)
            have HSq := Lib.hid HS6.out
            have HBq := Lib.hid HB6.out
            obtain ⟨wq, hwq⟩ : ∃ wq : World, wq = w6 := ⟨_, rfl⟩
            subst hwq
            clear HS6 HB6 p0 p1 p2 p3
            go_wp2
            go_loopw [10, 11] (fun s k wr => SeenAt wq ms ⟨1, vi, vs⟩ s k wr) (fun _ k _ => ms.length - (intOf k).toNat)
            case atStart => exact ⟨0, Nat.zero_le _, rfl, rfl, Grew.refl _⟩
            case round =>
              obtain ⟨q, hq, rfl, rfl, hgq⟩ := hrel
              have HGq := Lib.hid hgq
              clear hgq
              by_cases hqm : q < ms.length
              · obtain ⟨xq, hxq⟩ : ∃ xq, ms[q] = xq := ⟨_, rfl⟩
                have HNx : Hid ((ms.take (q + 1)).any (fun x => eqW x ⟨1, vi, vs⟩) = ((ms.take q).any (fun x => eqW x ⟨1, vi, vs⟩) || eqW xq ⟨1, vi, vs⟩)) := Lib.hid (by rw [List.take_succ_eq_append_getElem hqm, List.any_append, hxq]; simp)
                obtain ⟨bm, om, rfl, hbm, cm0, cm1, cm2⟩ := metAt (HSq.out.on HGq.out) hqm
                rw [hxq] at cm0 cm1 cm2
                have HTo : Hid (∀ s W, s = (ms.take (q + 1)).any (fun x => eqW x ⟨1, vi, vs⟩) → Grew wq W → SeenAt wq ms ⟨1, vi, vs⟩ (.bool s) (.int .i64 ((q : Int) + 1)) W) := Lib.hid fun s W h1 h2 => ⟨q + 1, by omega, by go_num, by rw [h1], h2⟩
                obtain ⟨xk, xi, xs⟩ := xq
                simp only at cm0 cm1 cm2
                clear hxq
                obtain ⟨s0, hs0⟩ : ∃ s0, (ms.take q).any (fun x => eqW x ⟨1, vi, vs⟩) = s0 := ⟨_, rfl⟩
                rw [hs0] at HNx ⊢
                clear hs0
                obtain ⟨s1, hs1⟩ : ∃ s1, eqW ⟨xk, xi, xs⟩ ⟨1, vi, vs⟩ = s1 := ⟨_, rfl⟩
                rw [hs1] at HNx
                have HSm : Hid (∀ W, Gives Try.prog 37 #[.agg #[.int .i64 xk, .int .i64 xi, .string xs], .agg #[.int .i64 1, .int .i64 vi, .string vs]] W (.bool s1)) := Lib.hid fun W => by rw [← hs1]; exact rsame_any _ _ _ _ _ _ _
                clear hs1
                obtain ⟨z0, z1, z2, z3, _⟩ := val3_in (HBq.out.grew HGq.out)
                cases s0
                · have HF := Lib.hid (HTo.out s1 · (by rw [HNx.out]; rfl))
                  clear HTo HNx
                  go_upto_region 18 with fail
                  refine wp_region_more (by kernel_rfl) (by kernel_rfl) ?_
                  repeat (go_big_quiet_step (((go_at_call 37; with_reducible exact (HSm.out _).within))))
                  refine wpQuiet_nil ?_
                  rintro _ ⟨z, rfl⟩
                  go_wp2
                  exact ⟨HF.out _ (HGq.out.more z), by simp only [intOf]; omega⟩
                · have HF := Lib.hid (HTo.out true · (by rw [HNx.out]; rfl))
                  clear HTo HNx HSm
                  go_upto_region 18 with fail
                  refine wp_region_more (by kernel_rfl) (by kernel_rfl) ?_
                  repeat (go_big_quiet_step ((fail)))
                  refine wpQuiet_nil ?_
                  rintro _ ⟨z, rfl⟩
                  go_wp2
                  exact ⟨HF.out _ (HGq.out.more z), by simp only [intOf]; omega⟩
              · obtain rfl : q = ms.length := by omega
                rw [List.take_length, any_eqW]
                have HSr := Lib.hid (HSq.out.on HGq.out)
                have HBr := Lib.hid (HBq.out.grew HGq.out)
                have HLt := Lib.hid HSr.out.b5.lt
                clear HSq HBq
                by_cases hin : (⟨1, vi, vs⟩ : Vl) ∈ ms
                · have HF := Lib.hid (HTo2.out hin _ _ _ _ _ _ HSr.out)
                  rw [decide_eq_true hin]
                  clear hin HTo2 HTo3
                  go_wp2
                  exact ⟨HF.out, by simp only [intOf]; omega⟩
                · rw [decide_eq_false hin]
                  have HTn := Lib.hid (HTo3.out hin)
                  obtain ⟨z0, z1, z2, z3, _⟩ := val3_in HBr.out
                  have HSa := Lib.hid (HSr.out.on ((Grew.refl wr).alloc (.cells #[.int .i64 1, .int .i64 vi, .string vs] 64)))
                  clear hin HTo2 HTo3
                  go_wp2_with (at_builtin; refine wpList_appB rfl _ _ 62 64 3 rfl (g5 + 1) (.agg #[.int .i64 0, .int .i64 0, .string ⟨#[]⟩]) 32 Try.underlying62 infoV27 rfl (by decide) (by decide) _ ms.length css.flatten rfl HSa.out.met _ 1 1 [.int .i64 1, .int .i64 vi, .string vs] rfl rfl (row_new _ _ _ #[.int .i64 1, .int .i64 vi, .string vs] rfl) (by simp; exact ⟨rfl, rfl, rfl⟩) (by omega) (by rw [World.size_alloc]; have := HLt.out; omega) ?_; intro A9 c9 w9 ho9 hg9; have HF := Lib.hid (HTn.out _ _ _ _ _ _ (HSa.out.newly (x := ⟨1, vi, vs⟩) hg9 ho9)); clear ho9 hg9)
                  rw [List.length_append] at HF
                  exact ⟨HF.out, by simp only [intOf]; omega⟩
          · have hk1b : (vk == 1) = false := beq_eq_false_iff_ne.2 hk1
            have EN := HNo.out hk1
            rw [EN] at HTo2 HTo3
            obtain ⟨w6, hw6⟩ : ∃ w6, w6 = W3 := ⟨_, rfl⟩
            subst hw6
            have HS6 := HS3
            have HB6 := HB3
            clear EN HNm HNo
            go_upto_region 14 with fail
            have HSq := Lib.hid HS6.out
            have HBq := Lib.hid HB6.out
            obtain ⟨wq, hwq⟩ : ∃ wq : World, wq = w6 := ⟨_, rfl⟩
            subst hwq
            clear HS6 HB6 p0 p1 p2 p3
            go_wp2
            go_loopw [10, 11] (fun s k wr => SeenAt wq ms ⟨vk, vi, vs⟩ s k wr) (fun _ k _ => ms.length - (intOf k).toNat)
            case atStart => exact ⟨0, Nat.zero_le _, rfl, rfl, Grew.refl _⟩
            case round =>
              obtain ⟨q, hq, rfl, rfl, hgq⟩ := hrel
              have HGq := Lib.hid hgq
              clear hgq
              by_cases hqm : q < ms.length
              · obtain ⟨xq, hxq⟩ : ∃ xq, ms[q] = xq := ⟨_, rfl⟩
                have HNx : Hid ((ms.take (q + 1)).any (fun x => eqW x ⟨vk, vi, vs⟩) = ((ms.take q).any (fun x => eqW x ⟨vk, vi, vs⟩) || eqW xq ⟨vk, vi, vs⟩)) := Lib.hid (by rw [List.take_succ_eq_append_getElem hqm, List.any_append, hxq]; simp)
                obtain ⟨bm, om, rfl, hbm, cm0, cm1, cm2⟩ := metAt (HSq.out.on HGq.out) hqm
                rw [hxq] at cm0 cm1 cm2
                have HTo : Hid (∀ s W, s = (ms.take (q + 1)).any (fun x => eqW x ⟨vk, vi, vs⟩) → Grew wq W → SeenAt wq ms ⟨vk, vi, vs⟩ (.bool s) (.int .i64 ((q : Int) + 1)) W) := Lib.hid fun s W h1 h2 => ⟨q + 1, by omega, by go_num, by rw [h1], h2⟩
                obtain ⟨xk, xi, xs⟩ := xq
                simp only at cm0 cm1 cm2
                clear hxq
                obtain ⟨s0, hs0⟩ : ∃ s0, (ms.take q).any (fun x => eqW x ⟨vk, vi, vs⟩) = s0 := ⟨_, rfl⟩
                rw [hs0] at HNx ⊢
                clear hs0
                obtain ⟨s1, hs1⟩ : ∃ s1, eqW ⟨xk, xi, xs⟩ ⟨vk, vi, vs⟩ = s1 := ⟨_, rfl⟩
                rw [hs1] at HNx
                have HSm : Hid (∀ W, Gives Try.prog 37 #[.agg #[.int .i64 xk, .int .i64 xi, .string xs], .agg #[.int .i64 vk, .int .i64 vi, .string vs]] W (.bool s1)) := Lib.hid fun W => by rw [← hs1]; exact rsame_any _ _ _ _ _ _ _
                clear hs1
                obtain ⟨z0, z1, z2, z3, _⟩ := val3_in (HBq.out.grew HGq.out)
                cases s0
                · have HF := Lib.hid (HTo.out s1 · (by rw [HNx.out]; rfl))
                  clear HTo HNx
                  go_upto_region 18 with fail
                  refine wp_region_more (by kernel_rfl) (by kernel_rfl) ?_
                  repeat (go_big_quiet_step (((go_at_call 37; with_reducible exact (HSm.out _).within))))
                  refine wpQuiet_nil ?_
                  rintro _ ⟨z, rfl⟩
                  go_wp2
                  exact ⟨HF.out _ (HGq.out.more z), by simp only [intOf]; omega⟩
                · have HF := Lib.hid (HTo.out true · (by rw [HNx.out]; rfl))
                  clear HTo HNx HSm
                  go_upto_region 18 with fail
                  refine wp_region_more (by kernel_rfl) (by kernel_rfl) ?_
                  repeat (go_big_quiet_step ((fail)))
                  refine wpQuiet_nil ?_
                  rintro _ ⟨z, rfl⟩
                  go_wp2
                  exact ⟨HF.out _ (HGq.out.more z), by simp only [intOf]; omega⟩
              · obtain rfl : q = ms.length := by omega
                rw [List.take_length, any_eqW]
                have HSr := Lib.hid (HSq.out.on HGq.out)
                have HBr := Lib.hid (HBq.out.grew HGq.out)
                have HLt := Lib.hid HSr.out.b5.lt
                clear HSq HBq
                by_cases hin : (⟨vk, vi, vs⟩ : Vl) ∈ ms
                · have HF := Lib.hid (HTo2.out hin _ _ _ _ _ _ HSr.out)
                  rw [decide_eq_true hin]
                  clear hin HTo2 HTo3
                  go_wp2
                  exact ⟨HF.out, by simp only [intOf]; omega⟩
                · rw [decide_eq_false hin]
                  have HTn := Lib.hid (HTo3.out hin)
                  obtain ⟨z0, z1, z2, z3, _⟩ := val3_in HBr.out
                  have HSa := Lib.hid (HSr.out.on ((Grew.refl wr).alloc (.cells #[.int .i64 vk, .int .i64 vi, .string vs] 64)))
                  clear hin HTo2 HTo3
                  go_wp2_with (at_builtin; refine wpList_appB rfl _ _ 62 64 3 rfl (g5 + 1) (.agg #[.int .i64 0, .int .i64 0, .string ⟨#[]⟩]) 32 Try.underlying62 infoV27 rfl (by decide) (by decide) _ ms.length css.flatten rfl HSa.out.met _ 1 1 [.int .i64 vk, .int .i64 vi, .string vs] rfl rfl (row_new _ _ _ #[.int .i64 vk, .int .i64 vi, .string vs] rfl) (by simp; exact ⟨rfl, rfl, rfl⟩) (by omega) (by rw [World.size_alloc]; have := HLt.out; omega) ?_; intro A9 c9 w9 ho9 hg9; have HF := Lib.hid (HTn.out _ _ _ _ _ _ (HSa.out.newly (x := ⟨vk, vi, vs⟩) hg9 ho9)); clear ho9 hg9)
                  rw [List.length_append] at HF
                  exact ⟨HF.out, by simp only [intOf]; omega⟩
    · obtain rfl : j = n := by omega
      have eL : L.take j = L := List.take_of_length_le (by rw [HLn.out]; exact Nat.le_refl _)
      rw [eL] at hs hnn hns hms ⊢
      have HS := Lib.hid hs
      have HC : Hid (colC L = ⟨(metL L).length, nullN L, marksI (numbL L)⟩) := Lib.hid rfl
      clear hs HRow HTk HNl HS0 eL HLn
      obtain ⟨hl, hhl⟩ : ∃ hl, (metL L).length = hl := ⟨_, rfl⟩
      rw [hhl] at HC hms ⊢
      have HHl := Lib.hid hhl
      clear hhl
      generalize metL L = mm at *
      generalize nullN L = nn at *
      generalize numbL L = ns at *
      generalize colC L = cC at *
      obtain ⟨q0, q1, q2, q3, q4, q5, q6⟩ := col3_in HS.out.b5
      go_upto_region 22 with fail
      have HO := Lib.hid HS.out.ord
      have HG1 := Lib.hid (HS.out.grew.setCell (a := ⟨g5, 0, none⟩) (by show u.heap.size ≤ g5; have := HS.out.ord; omega) (.int .i64 hl))
      have HB5 : Hid (Blok (wr.setCell ⟨g5, 0, none⟩ (.int .i64 hl)) g5 40 #[.int .i64 hl, .int .i64 nn, .slice none 0 0]) := Lib.hid (by
        have := HS.out.b5.set 0 (.int .i64 hl)
        simpa using this)
      have HB4 := Lib.hid (HS.out.b4.far (p := ⟨g5, 0, none⟩) (by show g4 ≠ g5; have := HS.out.ord; omega) (.int .i64 hl))
      have HOw := Lib.hid (own_rowI (ownsRow_setCell_below HS.out.own (a := ⟨g5, 0, none⟩) (Nat.lt_succ_self _) (.int .i64 hl)))
      clear q0 q1 q2 q3 q4 q5 q6 HS y0 y1 y2 y3
      generalize wr.setCell ⟨g5, 0, none⟩ (.int .i64 hl) = w1 at *
      have HMk := Lib.hid (rmarksT_any ns (by omega) A1 c1 w1 HOw.out)
      generalize marksI ns = mk at *
      go_wp2_with fail
      refine HMk.out.mono ?_
      rintro e w2 ⟨D, kD, rfl, hkD, hg2, ht2⟩
      have HG2 := Lib.hid (HG1.out.trans hg2)
      have HB52 := Lib.hid (HB5.out.grew hg2)
      have HB42 := Lib.hid (HB4.out.grew hg2)
      have h51 := HB5.out.lt
      have h41 := HB4.out.lt
      have hus := HG1.out.size
      obtain ⟨q0, q1, q2, q3, q4, q5, q6⟩ := col3_in HB52.out
      have HBf := Lib.hid (HB52.out.set 2 (.slice D mk.length kD))
      have HFin : Hid (∀ W', W' = (((w2.setCell ⟨g5, 2, none⟩ (.slice D mk.length kD)).setCell ⟨g4, 0, none⟩ (.int .i64 hl)).setCell ⟨g4, 1, none⟩ (.int .i64 nn)).setCell ⟨g4, 2, none⟩ (.slice D mk.length kD) →
          RColF u cC (.returned (.agg #[.int .i64 hl, .int .i64 nn, .slice D mk.length kD])) W' ∧ Blok W' g4 40 #[.int .i64 hl, .int .i64 nn, .slice D mk.length kD]) := Lib.hid fun W' e => by
        subst e
        obtain ⟨o1, o2, o3⟩ := HO.out
        have k5 := (Turns.refl w2 g5).set 2 (.slice D mk.length kD)
        have k4 := (((Turns.refl (w2.setCell ⟨g5, 2, none⟩ (.slice D mk.length kD)) g4).set 0 (.int .i64 hl)).set 1 (.int .i64 nn)).set 2 (.slice D mk.length kD)
        refine ⟨?_, ?_⟩
        · rw [HC.out]
          exact ⟨D, kD, rfl, hkD, Grew.setCell (Grew.setCell (Grew.setCell (Grew.setCell HG2.out (a := ⟨g5, 2, none⟩) (by show u.heap.size ≤ g5; omega) _) (a := ⟨g4, 0, none⟩) (by show u.heap.size ≤ g4; omega) _) (a := ⟨g4, 1, none⟩) (by show u.heap.size ≤ g4; omega) _) (a := ⟨g4, 2, none⟩) (by show u.heap.size ≤ g4; omega) _, ((ht2.turns k5 h51).turns k4 h41).low hus⟩
        · exact col3_set (HB42.out.far (p := ⟨g5, 2, none⟩) (by show g4 ≠ g5; omega) _) _ _ _
      have z6 := HB42.out.lt
      have z60 := HB42.out.thaw 0
      have z61 := HB42.out.thaw 1
      have z62 := HB42.out.thaw 2
      have c60 := HB42.out.cell 0
      have c61 := HB42.out.cell 1
      have c62 := HB42.out.cell 2
      simp only [List.getElem?_toArray, List.getElem?_cons_zero, List.getElem?_cons_succ] at c60 c61 c62
      have h67 : g4 ≠ g5 := by have := HO.out; omega
      have h76 : g5 ≠ g4 := by omega
      clear hg2 ht2 hkD HG1 HG2 HB4 HB5 HB42 HB52 HOw HMk HC h51 h41 hus
      go_wp2
      obtain ⟨hF, hB⟩ := HFin.out _ rfl
      obtain ⟨_, r0, r1, r2, _⟩ := col3_in hB
      exact bodyPost_ret (v := .agg #[.int .i64 hl, .int .i64 nn, .slice D mk.length kD]) (by simp [results, Try.results24, go_sem, r0, r1, r2]) rfl hF
end Go.Proofs.Ytdohfbpjmnhhmaa

/- Layer 27: what is true of a table, by the document. Condition: no more than a thousand rows and columns. -/
namespace Go.Proofs.Ytdohfbpjmnhhmaa
open Go.RowKit
attribute [local go_sem] more_cell more_frozen more_more more_setCell more_of_drew more_of_drewN lt_more le_more past_cell past_cell2 past_frozen past_frozen2 past_setCell past_setCell2 mid_cell mid_frozen mid_setCell
attribute [local go_sem ↓] Go.wp_at_zero Go.wp_at_succ

def ROfAt (u : World) (g1 g2 g3 : Nat) (tcs : Array Value) (t : Tb) (nc : Nat) (v : Value) (wr : World) : Prop :=
  ∃ (i : Nat) (A : Option Addr) (c : Nat) (css : List (List Value)), i ≤ nc ∧ v = .int .i64 i ∧ OfI u g1 g2 g3 (g3 + 1) tcs (t.rows.length : Nat) (colsC t i) A c css wr
set_option maxHeartbeats 4000000 in
set_option maxRecDepth 100000 in
theorem rof_any (t : Tb) (nr : Nat) (hnr : t.rows.length = nr) (hr1 : nr ≤ 1000) (nc : Nat) (hnc : t.cols.length = nc) (hc1 : nc ≤ 1000) (C : Option Addr) (k : Nat) (B : Option Addr) (j : Nat) (w : World) (rb : RwsR (PRow w) B t.rows) :
    Calls Try.prog 10 #[.agg #[.string t.name, .slice C nc k, .slice B nr j]] w (HeldF w (ofS t)) := by
  have HCol : Hid (∀ (i : Nat) W, Grew w W → Calls Try.prog 24 #[.agg #[.string t.name, .slice C nc k, .slice B nr j], .int .i64 i] W (RColF W (colC (colV t.rows i)))) := Lib.hid fun i W hW =>
    rcol_any t nr hnr hr1 nc i C k B j W (rb.grew hW)
  have HRn := Lib.hid hnr
  have HFin : Hid (∀ A c W, Grew w W → CstsR (PRow W) A (colsC t nc) → HeldF w (ofS t) (.returned (.agg #[.int .i64 nr, .slice A nc c])) W) := Lib.hid fun A c W hW hR => by
    have e : ofS t = ⟨(nr : Nat), colsC t nc⟩ := by unfold ofS; rw [hnr, hnc]
    rw [e]
    exact ⟨A, c, by show _ = Ending.returned (.agg #[.int .i64 nr, .slice A (colsC t nc).length c]); rw [colsC_len], hW, hR⟩
  clear rb hnr hnc
  obtain ⟨W0, hW0⟩ : ∃ W0, W0 = ((w.alloc (.cells #[.string t.name, .slice C nc k, .slice B nr j] 25)).alloc (.cells #[.int .i64 0, .slice none 0 0] 31)).alloc (.cells #[.int .i64 nr, .slice none 0 0] 31) := ⟨_, rfl⟩
  have HI0 : Hid (ROfAt w w.heap.size (w.heap.size + 1) (w.heap.size + 1 + 1) #[.string t.name, .slice C nc k, .slice B nr j] t nc (.int .i64 0) W0) := Lib.hid (by
    rw [hW0]
    refine ⟨0, none, 0, [], Nat.zero_le _, rfl, ⟨by omega, ((Grew.refl w).alloc _ |>.alloc _).alloc _, ((Blok.new _ _ _ _ rfl).alloc _).alloc _, (Blok.new _ _ _ _ (by simp)).alloc _, ?_, own_none _ _ _ _, ListR.nil⟩⟩
    rw [HRn.out]
    exact Blok.new _ _ _ _ (by simp))
  go_enter Try.func10, Try.ntmps10
  go_upto_region 2 with fail
  rw [← hW0]
  clear hW0
  obtain ⟨g1, hg1⟩ : ∃ g1, w.heap.size = g1 := ⟨_, rfl⟩
  rw [hg1] at HI0 ⊢
  generalize hg3 : g1 + 1 + 1 = g3 at *
  generalize hg2 : g1 + 1 = g2 at *
  clear hg1 hg2 hg3
  go_wp2
  go_loopw [4] (fun v wr => ROfAt w g1 g2 g3 #[.string t.name, .slice C nc k, .slice B nr j] t nc v wr) (fun v _ => nc - (intOf v).toNat)
  case atStart => exact HI0.out
  case round =>
    obtain ⟨i, A, c, css, hi, rfl, hI⟩ := hrel
    have HI := Lib.hid hI
    have HNx := Lib.hid (colsC_snoc t i)
    have hll := colsC_len t i
    obtain ⟨y0, y1, y2, y3⟩ := box2T hI.b1
    by_cases h : i < nc
    · have HI1 := Lib.hid (HI.out.on (Grew.refl wr).drew)
      have HTo : Hid (∀ A c css W, OfI w g1 g2 g3 (g3 + 1) #[.string t.name, .slice C nc k, .slice B nr j] (t.rows.length : Nat) (colsC t (i + 1)) A c css W → ROfAt w g1 g2 g3 #[.string t.name, .slice C nc k, .slice B nr j] t nc (.int .i64 ((i : Int) + 1)) W) := Lib.hid fun A c css W h1 => ⟨i + 1, A, c, css, by omega, by go_num, h1⟩
      have HCi := Lib.hid (HCol.out i wr.drew HI1.out.grew)
      rw [HNx.out] at HTo
      clear hI HI HI0 HCol HFin HNx
      generalize colsC t i = l at *
      generalize colC (colV t.rows i) = x at *
      rw [HRn.out] at HI1 HTo
      subst hll
      obtain ⟨xu, xn, xm⟩ := x
      go_upto_region 5 with fail
      have hS0 : Blok wr.drew g1 25 #[.string t.name, .slice C nc k, .slice B nr j] ∧ Blok wr.drew g3 31 #[.int .i64 nr, .slice A l.length c] := ⟨HI1.out.b1, HI1.out.b3⟩
      clear y0 y1 y2 y3
      refine wp_region_last (fun W => Blok W g1 25 #[.string t.name, .slice C nc k, .slice B nr j] ∧ Blok W g3 31 #[.int .i64 nr, .slice A l.length c]) 8 rfl (by kernel_rfl) ?_
      refine last_take 0 (v := ?_) rfl (by kernel_rfl) (by kernel_rfl) (by kernel_rfl) (by kernel_rfl) (fun _ _ _ h => h) (by rfl) ?_ hS0 ?_
      rotate_left
      · (intro W hW; go_simp; with_reducible rfl)
      refine last_take 3 (v := ?_) rfl (by kernel_rfl) (by kernel_rfl) (by kernel_rfl) (by kernel_rfl) (fun _ _ _ h => h) (by rfl) ?_ hS0 ?_
      rotate_left
      · (intro W hW; go_simp; with_reducible rfl)
      refine last_norm (a' := ?_) ?_ ?_
      rotate_left
      · (go_simp; with_reducible rfl)
      refine last_take 1 (v := ?_) rfl (by kernel_rfl) (by kernel_rfl) (by kernel_rfl) (by kernel_rfl) (fun _ _ _ h => h) (by rfl) ?_ hS0 ?_
      rotate_left
      · (intro W hW; have q := hW.2.cell 1; simp at q; go_simp; with_reducible rfl)
      refine last_norm (a' := ?_) ?_ ?_
      rotate_left
      · (go_simp; with_reducible rfl)
      refine last_take 2 (v := ?_) rfl (by kernel_rfl) (by kernel_rfl) (by kernel_rfl) (by kernel_rfl) (fun _ _ _ h => h) (by rfl) ?_ hS0 ?_
      rotate_left
      · (intro W hW; obtain ⟨y0, y1, y2, y3⟩ := box2T hW.1; go_simp; with_reducible rfl)
      refine last_norm (a' := ?_) ?_ ?_
      rotate_left
      · (go_simp; with_reducible rfl)
      refine last_call 4 (by kernel_rfl) (by kernel_rfl) rfl (by rfl) (fun K hK => ?_)
      go_simp
      go_wp2_with (go_at_call 24; (with_reducible refine HCi.out.mono ?_); rintro e w3 ⟨B3, k3, rfl, hk3, g3', tr3⟩; have HOO := HI1.out.ord; have hS3 := And.intro (hS0.1.grew g3') (hS0.2.grew g3'); have HI3 := Lib.hid (HI1.out.on g3'); have HTr3 := Lib.hid (And.intro hk3 (And.intro tr3 HI1.out.grew.size)); clear tr3 hk3)
      refine hK.out _ _ hS3 ?_
      clear hK K
      refine last_call 5 (by kernel_rfl) (by kernel_rfl) rfl (by rfl) (fun K hK => ?_)
      go_simp
      go_wp2_with fail
      refine hK.out _ _ ⟨hS3.1.alloc _, hS3.2.alloc _⟩ ?_
      clear hK K
      have HI4 := Lib.hid (HI3.out.on ((Grew.refl w3).alloc (.cells #[.int .i64 xu, .int .i64 xn, .slice B3 xm.length k3] 40)))
      have HX4 : Hid (CstR (MRow w (w3.alloc (.cells #[.int .i64 xu, .int .i64 xn, .slice B3 xm.length k3] 40))) ⟨xu, xn, xm⟩ [.int .i64 xu, .int .i64 xn, .slice B3 xm.length k3]) := Lib.hid ⟨B3, k3, rfl, HTr3.out.1, Or.inr ((HTr3.out.2.1.low HTr3.out.2.2).grew ((Grew.refl w3).alloc _))⟩
      have hsz3 : g3 + 1 ≤ w3.heap.size := HI3.out.b3.lt
      have hrow : ∀ q, (Value.slice A l.length c).ownBlock = some q → g3 + 1 ≤ q := own_base HI3.out.own
      refine last_call 6 (by kernel_rfl) (by kernel_rfl) rfl (by rfl) (fun K hK => ?_)
      refine wp_appB (.tmp 17) (.tmp 21) 29 40 3 rfl (g3 + 1) (.agg #[.int .i64 0, .int .i64 0, .slice none 0 0]) 40 Try.underlying29 infoCs rfl (by decide) (by decide) _ l.length css.flatten rfl HI4.out.own _ 1 1 [.int .i64 xu, .int .i64 xn, .slice B3 xm.length k3] rfl rfl (row_new _ _ _ #[.int .i64 xu, .int .i64 xn, .slice B3 xm.length k3] rfl) (by simp; exact ⟨rfl, rfl, rfl⟩) (by omega) (by simp; omega) ?_
      intro A6 c6 w6 ho6 hg6
      have hS6 : Blok w6 g1 25 #[.string t.name, .slice C nc k, .slice B nr j] ∧ Blok w6 g3 31 #[.int .i64 nr, .slice A l.length c] := ⟨HI4.out.b1.grown hg6 (fun e => by have := hrow _ e; omega), HI4.out.b3.grown hg6 (fun e => by have := hrow _ e; omega)⟩
      refine hK.out _ _ hS6 ?_
      clear hK K
      refine last_take 7 (v := ?_) rfl (by kernel_rfl) (by kernel_rfl) (by kernel_rfl) (by kernel_rfl) (fun _ _ _ h => h) (by rfl) ?_ hS6 ?_
      rotate_left
      · (intro W hW; go_simp; with_reducible rfl)
      refine last_norm (a' := ?_) ?_ ?_
      rotate_left
      · (go_simp; with_reducible rfl)
      have d1 := hS6.2.cell 1
      have z1 := hS6.2.thaw 1
      have zl := hS6.2.lt
      simp at d1
      have HF : Hid (ROfAt w g1 g2 g3 #[.string t.name, .slice C nc k, .slice B nr j] t nc (.int .i64 ((l.length : Int) + 1)) (w6.setCell ⟨g3, 1, none⟩ (.slice A6 (l.length + 1) c6))) := Lib.hid (HTo.out _ _ _ _ (HI4.out.snoc HX4.out ho6 hg6))
      clear ho6 hg6
      refine last_last (by kernel_rfl) (by kernel_rfl) rfl (by rfl) (fun K hK => ?_)
      go_simp
      go_wp2_with fail
      refine hK.out _ _ ?_
      clear hK K
      go_wp2
      exact ⟨HF.out, by simp only [intOf]; omega⟩
    · obtain rfl : i = nc := by omega
      have HD := Lib.hid (HI.out.res (.int .i64 nr) (.slice A i c))
      have HE := Lib.hid (HFin.out A c _ HD.out.1 HD.out.2)
      have HB3 := Lib.hid HI.out.b3
      have HB2 := Lib.hid HI.out.b2
      rw [HRn.out, hll] at HB3
      obtain ⟨z1, z2, z3, z4, z5⟩ := boxS2 HB3.out
      obtain ⟨v1, v2, v3, v4, v5⟩ := boxS2 HB2.out
      clear HFin HCol HD hI HI HNx hll HI0
      go_wp2
      have bf := (HB2.out.set 0 (.int .i64 nr)).set 1 (.slice A i c)
      have q0 := bf.cell 0
      have q1 := bf.cell 1
      simp at q0 q1
      exact bodyPost_ret (v := .agg #[.int .i64 nr, .slice A i c]) (by simp [results, Try.results10, go_sem, q0, q1]) rfl HE.out
end Go.Proofs.Ytdohfbpjmnhhmaa

/- Layer 27: the law of what is said of a table. Condition: a table in memory that is there. -/
namespace Go.Proofs.Ytdohfbpjmnhhmaa
open Go.RowKit
attribute [local go_sem] more_cell more_frozen more_more more_setCell more_of_drew more_of_drewN lt_more le_more past_cell past_cell2 past_frozen past_frozen2 past_setCell past_setCell2 mid_cell mid_frozen mid_setCell
attribute [local go_sem ↓] Go.wp_at_zero Go.wp_at_succ

set_option maxHeartbeats 8000000 in
set_option maxRecDepth 100000 in
theorem histOfs_walk (t : Tb) (ho : TbOk t) (C : Option Addr) (k : Nat) (hk : t.cols.length ≤ k) (B : Option Addr) (j : Nat) (hj : t.rows.length ≤ j) (w : World) (rc : ClsR (PRow w) C t.cols) (rb : RwsR (PRow w) B t.rows) :
    Gives Try.prog 3 #[.agg #[.string t.name, .slice C t.cols.length k, .slice B t.rows.length j]] w (.bool true) := by
  have HGood : Hid (goodTbs [t] → t.rows.length ≤ 400 ∧ t.cols.length ≤ 400) := Lib.hid fun h => by
    have h2 := h.2.1
    unfold szT at h2
    simp at h2
    omega
  obtain ⟨nr, hnr⟩ : ∃ nr, t.rows.length = nr := ⟨_, rfl⟩
  obtain ⟨nc, hnc⟩ : ∃ nc, t.cols.length = nc := ⟨_, rfl⟩
  have HMu : Hid (∀ W, Grew w W → Calls Try.prog 6 #[.slice (some ⟨W.heap.size, 0, none⟩) 1 1] (W.alloc (.cells #[.string t.name, .slice C nc k, .slice B nr j] 25)) (MuchR (W.alloc (.cells #[.string t.name, .slice C nc k, .slice B nr j] 25)) (goodTbs [t]))) := Lib.hid fun W hW => by
    have hg := hW.alloc (.cells #[.string t.name, .slice C nc k, .slice B nr j] 25)
    refine much5_any [t] ⟨by simp, fun v hv => by rw [List.mem_singleton] at hv; subst hv; exact ho⟩ (some ⟨W.heap.size, 0, none⟩) 1 _ ⟨[[.string t.name, .slice C nc k, .slice B nr j]], ?_, row_new W _ W.heap.size #[.string t.name, .slice C nc k, .slice B nr j] rfl⟩
    exact (ListR.nil (R := TbR (PRow _)) (size := 3)).snoc ⟨C, k, B, j, by rw [hnr, hnc], hk, hj, rc.grew hg, rb.grew hg⟩ rfl
  have HOf : Hid (nr ≤ 400 → nc ≤ 400 → ∀ W, Grew w W → Calls Try.prog 8 #[.agg #[.string t.name, .slice C nc k, .slice B nr j]] W (HeldF W (ofS t))) := Lib.hid fun h1 h2 W hW => hof_any t ho nr hnr (by omega) nc hnc (by omega) C k B j W (rb.grew hW)
  have HRof : Hid (nr ≤ 400 → nc ≤ 400 → ∀ W, Grew w W → Calls Try.prog 10 #[.agg #[.string t.name, .slice C nc k, .slice B nr j]] W (HeldF W (ofS t))) := Lib.hid fun h1 h2 W hW => rof_any t nr hnr (by omega) nc hnc (by omega) C k B j W (rb.grew hW)
  have hsm := ofS_small t
  have hle : (ofS t).cols.length = nc := by show (colsC t t.cols.length).length = nc; rw [colsC_len, hnc]
  have hro : (ofS t).rows = ((nr : Nat) : Int) := by show ((t.rows.length : Nat) : Int) = _; rw [hnr]
  have hhe : nr ≤ 400 → nc ≤ 16 → heldS (ofS t) nc = ofS t := fun h1 h2 => by rw [← hnc]; exact ofS_held t (by omega) (by omega)
  rw [hnr, hnc] at HGood ⊢
  clear rc rb ho hnr hnc hk hj
  generalize ofS t = s at *
  obtain ⟨r0, lc⟩ := s
  simp only at hsm hle hro
  subst hro
  have HSm : Hid (nc ≤ 400 → ∀ W A A2 j j2, CstsR (PRow W) A lc → CstsR (PRow W) A2 lc → Gives Try.prog 9 #[.agg #[.int .i64 nr, .slice A nc j], .agg #[.int .i64 nr, .slice A2 nc j2]] W (.bool true)) := Lib.hid fun h W A A2 j j2 h1 h2 => by
    have := rsamestat_any nr nr lc lc A A2 j j2 (by omega) (fun x hx => Nat.le_trans (hsm x hx) (by decide)) (fun x hx => Nat.le_trans (hsm x hx) (by decide)) true (by simp) W h1 h2
    rw [hle] at this
    exact this
  have HRt : Hid (nr ≤ 400 → nc ≤ 16 → ∀ W A j, CstsR (PRow W) A lc → Gives Try.prog 11 #[.agg #[.int .i64 nr, .slice A nc j], .int .i64 nc] W (.bool true)) := Lib.hid fun h1 h2 W A j hA => by
    have := right27_any ⟨nr, lc⟩ A j nc (fun x hx => Nat.le_trans (hsm x hx) (by decide)) W hA
    rw [hhe h1 h2, decide_eq_true rfl] at this
    simp only at this
    rw [hle] at this
    exact this
  have HLe := Lib.hid hle
  clear hsm hle hhe
  unfold Gives
  obtain ⟨W0, hW0⟩ : ∃ W0, W0 = w.alloc (.cells #[.string t.name, .slice C nc k, .slice B nr j] 25) := ⟨_, rfl⟩
  have HG0 : Hid (Grew w W0) := Lib.hid (by rw [hW0]; exact (Grew.refl w).alloc _)
  have HB0 : Hid (Blok W0 w.heap.size 25 #[.string t.name, .slice C nc k, .slice B nr j]) := Lib.hid (by rw [hW0]; exact Blok.new _ _ _ _ rfl)
  go_enter Try.func3, Try.ntmps3
  go_upto_region 1 with fail
  rw [← hW0]
  clear hW0
  generalize w.heap.size = g1 at *
  obtain ⟨x0, x1, x2, x3⟩ := box2T HB0.out
  go_wp2_with fail
  refine (HMu.out _ HG0.out).mono ?_
  rintro e w1 ⟨tt, rfl, hg1, hgood⟩
  have HG1 := Lib.hid ((HG0.out.alloc _).trans hg1)
  have HB1 := Lib.hid ((HB0.out.alloc _).grew hg1)
  have HGd := Lib.hid hgood
  clear x0 x1 x2 x3 hg1 hgood HB0 HG0 HMu
  cases tt
  rotate_left
  · clear HOf HRof HSm HRt HGd
    go_wp2_with (first | (go_at_call 7; (with_reducible refine (live27_any _).grows.mono ?_); rintro e w6 ⟨rfl, hg6⟩; have G6 := Lib.hid hg6; clear hg6))
    go_ret
    exact ⟨rfl, HG1.out.trans G6.out⟩
  obtain ⟨hr4, hc4⟩ := HGood.out (HGd.out rfl)
  have HOf1 := Lib.hid (HOf.out hr4 hc4)
  have HRof1 := Lib.hid (HRof.out hr4 hc4)
  have HSm1 := Lib.hid (HSm.out hc4)
  have HRt1 := Lib.hid (HRt.out hr4)
  clear HOf HRof HSm HRt HGd HGood
  obtain ⟨x0, x1, x2, x3⟩ := box2T HB1.out
  go_wp2_with fail
  refine (HOf1.out _ HG1.out).mono ?_
  rintro e w2 ⟨B2, j2, rfl, hg2, hr2⟩
  simp only at hr2 ⊢
  rw [HLe.out]
  have HR2 := Lib.hid hr2
  have HG2 := Lib.hid (HG1.out.trans hg2)
  have HB2 := Lib.hid (HB1.out.grew hg2)
  clear x0 x1 x2 x3 hg2 hr2 HB1 HG1 HOf1
  go_upto_region 4 with fail
  obtain ⟨w3, hw3⟩ : ∃ w3, w3 = w2.alloc (.cells #[.int .i64 nr, .slice B2 nc j2] 31) := ⟨_, rfl⟩
  have HB3 : Hid (Blok w3 g1 25 #[.string t.name, .slice C nc k, .slice B nr j]) := Lib.hid (by rw [hw3]; exact HB2.out.alloc _)
  have HBs : Hid (Blok w3 w2.heap.size 31 #[.int .i64 nr, .slice B2 nc j2]) := Lib.hid (by rw [hw3]; exact Blok.new _ _ _ _ rfl)
  have HG3 : Hid (Grew w w3) := Lib.hid (by rw [hw3]; exact HG2.out.alloc _)
  have HR3 : Hid (CstsR (PRow w3) B2 lc) := Lib.hid (by rw [hw3]; exact HR2.out.grew ((Grew.refl _).alloc _))
  rw [← hw3]
  clear hw3 HB2 HR2 HG2
  generalize w2.heap.size = g3 at *
  by_cases h16 : nc ≤ 16
  · have hd : decide ((16 : Int) < (nc : Int)) = false := decide_eq_false (by omega)
    have hd' : (nc : Int) ≤ 16 := by omega
    have HRt2 := Lib.hid (HRt1.out h16)
    clear HRt1
    refine wp_region_grew (by kernel_rfl) ?_
    refine held_take 0 (v := ?_) rfl (by kernel_rfl) (by kernel_rfl) (by kernel_rfl) (fun _ _ _ h => h) (by rfl) ?_ (Grew.refl _).drew ?_
    rotate_left
    · (intro W hW; obtain ⟨z0, z1, z2⟩ := boxS (HBs.out.grew hW); go_simp; with_reducible rfl)
    refine held_norm (a' := ?_) ?_ ?_
    rotate_left
    · (go_simp; with_reducible rfl)
    refine held_take 1 (v := ?_) rfl (by kernel_rfl) (by kernel_rfl) (by kernel_rfl) (fun _ _ _ h => h) (by rfl) ?_ (Grew.refl _).drew ?_
    rotate_left
    · (intro W hW; obtain ⟨z0, z1, z2, z3⟩ := box2T (HB3.out.grew hW); go_simp; with_reducible rfl)
    refine held_norm (a' := ?_) ?_ ?_
    rotate_left
    · (go_simp; with_reducible rfl)
    refine held_call 2 (by kernel_rfl) rfl (by rfl) (fun K hK => ?_)
    go_simp
    go_wp2_with (go_at_call 10; (with_reducible refine (HRof1.out _ (HG3.out.trans (Grew.refl _).drew)).mono ?_); rintro e w5 ⟨B5, j5, rfl, hg5, hr5⟩; simp only at hr5 ⊢; rw [HLe.out]; have HR5 := Lib.hid hr5; have HG5 := Lib.hid ((Grew.refl w3).drew.trans hg5); clear hg5 hr5)
    refine hK.out _ _ HG5.out ?_
    clear hK K
    refine held_call 3 (by kernel_rfl) rfl (by rfl) (fun K hK => ?_)
    go_simp
    go_wp2_with (go_at_call 9; (with_reducible refine (HSm1.out _ _ _ _ _ (HR3.out.grew HG5.out) HR5.out).grows.mono ?_); rintro e w6 ⟨rfl, hg6⟩; have HG6 := Lib.hid (HG5.out.trans hg6); clear hg6)
    refine hK.out _ _ HG6.out ?_
    clear hK K
    refine held_take 4 (v := ?_) rfl (by kernel_rfl) (by kernel_rfl) (by kernel_rfl) (fun _ _ _ h => h) (by rfl) ?_ HG6.out ?_
    rotate_left
    · (intro W hW; go_simp; with_reducible rfl)
    refine held_take 5 (v := ?_) rfl (by kernel_rfl) (by kernel_rfl) (by kernel_rfl) (fun _ _ _ h => h) (by rfl) ?_ HG6.out ?_
    rotate_left
    · (intro W hW; go_simp; with_reducible rfl)
    refine held_norm (a' := ?_) ?_ ?_
    rotate_left
    · (go_simp; with_reducible rfl)
    refine held_take 6 (v := ?_) rfl (by kernel_rfl) (by kernel_rfl) (by kernel_rfl) (fun _ _ _ h => h) (by rfl) ?_ HG6.out ?_
    rotate_left
    · (intro W hW; obtain ⟨z0, z1, z2, z3⟩ := box2T (HB3.out.grew hW); go_simp; with_reducible rfl)
    refine held_norm (a' := ?_) ?_ ?_
    rotate_left
    · (go_simp; with_reducible rfl)
    refine held_take 7 (v := ?_) rfl (by kernel_rfl) (by kernel_rfl) (by kernel_rfl) (fun _ _ _ h => h) (by rfl) ?_ HG6.out ?_
    rotate_left
    · (intro W hW; go_simp; with_reducible rfl)
    refine held_take 8 (v := ?_) rfl (by kernel_rfl) (by kernel_rfl) (by kernel_rfl) (fun _ _ _ h => h) (by rfl) ?_ HG6.out ?_
    rotate_left
    · (intro W hW; go_simp; with_reducible rfl)
    refine held_take 9 (v := ?_) rfl (by kernel_rfl) (by kernel_rfl) (by kernel_rfl) (fun _ _ _ h => h) (by rfl) ?_ HG6.out ?_
    rotate_left
    · (intro W hW; go_simp; with_reducible rfl)
    refine held_norm (a' := ?_) ?_ ?_
    rotate_left
    · (go_simp; with_reducible rfl)
    refine held_take 10 (v := ?_) rfl (by kernel_rfl) (by kernel_rfl) (by kernel_rfl) (fun _ _ _ h => h) (by rfl) ?_ HG6.out ?_
    rotate_left
    · (intro W hW; obtain ⟨z0, z1, z2⟩ := boxS (HBs.out.grew hW); go_simp; with_reducible rfl)
    refine held_norm (a' := ?_) ?_ ?_
    rotate_left
    · (go_simp; with_reducible rfl)
    refine held_take 11 (v := ?_) rfl (by kernel_rfl) (by kernel_rfl) (by kernel_rfl) (fun _ _ _ h => h) (by rfl) ?_ HG6.out ?_
    rotate_left
    · (intro W hW; go_simp; with_reducible rfl)
    refine held_norm (a' := ?_) ?_ ?_
    rotate_left
    · (go_simp; with_reducible rfl)
    refine held_take 12 (v := ?_) rfl (by kernel_rfl) (by kernel_rfl) (by kernel_rfl) (fun _ _ _ h => h) (by rfl) ?_ HG6.out ?_
    rotate_left
    · (intro W hW; obtain ⟨z0, z1, z2, z3⟩ := box2T (HB3.out.grew hW); go_simp; with_reducible rfl)
    refine held_norm (a' := ?_) ?_ ?_
    rotate_left
    · (go_simp; with_reducible rfl)
    refine held_take 13 (v := ?_) rfl (by kernel_rfl) (by kernel_rfl) (by kernel_rfl) (fun _ _ _ h => h) (by rfl) ?_ HG6.out ?_
    rotate_left
    · (intro W hW; go_simp; with_reducible rfl)
    refine held_norm (a' := ?_) ?_ ?_
    rotate_left
    · (go_simp; with_reducible rfl)
    refine held_call 14 (by kernel_rfl) rfl (by rfl) (fun K hK => ?_)
    go_simp
    go_wp2_with (go_at_call 11; (with_reducible refine (HRt2.out _ _ _ (HR3.out.grew HG6.out)).grows.mono ?_); rintro e w7 ⟨rfl, hg7⟩; have HG7 := Lib.hid (HG6.out.trans hg7); clear hg7)
    refine hK.out _ _ HG7.out ?_
    clear hK K
    refine held_take 15 (v := ?_) rfl (by kernel_rfl) (by kernel_rfl) (by kernel_rfl) (fun _ _ _ h => h) (by rfl) ?_ HG7.out ?_
    rotate_left
    · (intro W hW; go_simp; with_reducible rfl)
    refine held_take 16 (v := ?_) rfl (by kernel_rfl) (by kernel_rfl) (by kernel_rfl) (fun _ _ _ h => h) (by rfl) ?_ HG7.out ?_
    rotate_left
    · (intro W hW; go_simp; with_reducible rfl)
    refine held_take 17 (v := ?_) rfl (by kernel_rfl) (by kernel_rfl) (by kernel_rfl) (fun _ _ _ h => h) (by rfl) ?_ HG7.out ?_
    rotate_left
    · (intro W hW; go_simp; with_reducible rfl)
    refine held_norm (a' := ?_) ?_ ?_
    rotate_left
    · (go_simp; with_reducible rfl)
    refine held_call 18 (by kernel_rfl) rfl (by rfl) (fun K hK => ?_)
    go_simp
    go_wp2_with (go_at_call 7; (with_reducible refine (live27_any _).grows.mono ?_); rintro e w8 ⟨rfl, hg8⟩; have HG8 := Lib.hid (HG7.out.trans hg8); clear hg8)
    refine hK.out _ _ HG8.out ?_
    clear hK K
    refine held_take 19 (v := ?_) rfl (by kernel_rfl) (by kernel_rfl) (by kernel_rfl) (fun _ _ _ h => h) (by rfl) ?_ HG8.out ?_
    rotate_left
    · (intro W hW; go_simp; with_reducible rfl)
    refine held_take 20 (v := ?_) rfl (by kernel_rfl) (by kernel_rfl) (by kernel_rfl) (fun _ _ _ h => h) (by rfl) ?_ HG8.out ?_
    rotate_left
    · (intro W hW; go_simp; with_reducible rfl)
    refine held_norm (a' := ?_) ?_ ?_
    rotate_left
    · (go_simp; with_reducible rfl)
    refine held_done (by kernel_rfl) ?_
    go_wp2
    go_ret
    exact ⟨rfl, HG3.out.trans HG8.out⟩
  · have hd : decide ((16 : Int) < (nc : Int)) = true := decide_eq_true (by omega)
    have hd' : (16 : Int) < (nc : Int) := by omega
    clear HRt1
    refine wp_region_grew (by kernel_rfl) ?_
    refine held_take 0 (v := ?_) rfl (by kernel_rfl) (by kernel_rfl) (by kernel_rfl) (fun _ _ _ h => h) (by rfl) ?_ (Grew.refl _).drew ?_
    rotate_left
    · (intro W hW; obtain ⟨z0, z1, z2⟩ := boxS (HBs.out.grew hW); go_simp; with_reducible rfl)
    refine held_norm (a' := ?_) ?_ ?_
    rotate_left
    · (go_simp; with_reducible rfl)
    refine held_take 1 (v := ?_) rfl (by kernel_rfl) (by kernel_rfl) (by kernel_rfl) (fun _ _ _ h => h) (by rfl) ?_ (Grew.refl _).drew ?_
    rotate_left
    · (intro W hW; obtain ⟨z0, z1, z2, z3⟩ := box2T (HB3.out.grew hW); go_simp; with_reducible rfl)
    refine held_norm (a' := ?_) ?_ ?_
    rotate_left
    · (go_simp; with_reducible rfl)
    refine held_call 2 (by kernel_rfl) rfl (by rfl) (fun K hK => ?_)
    go_simp
    go_wp2_with (go_at_call 10; (with_reducible refine (HRof1.out _ (HG3.out.trans (Grew.refl _).drew)).mono ?_); rintro e w5 ⟨B5, j5, rfl, hg5, hr5⟩; simp only at hr5 ⊢; rw [HLe.out]; have HR5 := Lib.hid hr5; have HG5 := Lib.hid ((Grew.refl w3).drew.trans hg5); clear hg5 hr5)
    refine hK.out _ _ HG5.out ?_
    clear hK K
    refine held_call 3 (by kernel_rfl) rfl (by rfl) (fun K hK => ?_)
    go_simp
    go_wp2_with (go_at_call 9; (with_reducible refine (HSm1.out _ _ _ _ _ (HR3.out.grew HG5.out) HR5.out).grows.mono ?_); rintro e w6 ⟨rfl, hg6⟩; have HG6 := Lib.hid (HG5.out.trans hg6); clear hg6)
    refine hK.out _ _ HG6.out ?_
    clear hK K
    refine held_take 4 (v := ?_) rfl (by kernel_rfl) (by kernel_rfl) (by kernel_rfl) (fun _ _ _ h => h) (by rfl) ?_ HG6.out ?_
    rotate_left
    · (intro W hW; go_simp; with_reducible rfl)
    refine held_take 5 (v := ?_) rfl (by kernel_rfl) (by kernel_rfl) (by kernel_rfl) (fun _ _ _ h => h) (by rfl) ?_ HG6.out ?_
    rotate_left
    · (intro W hW; go_simp; with_reducible rfl)
    refine held_norm (a' := ?_) ?_ ?_
    rotate_left
    · (go_simp; with_reducible rfl)
    refine held_take 6 (v := ?_) rfl (by kernel_rfl) (by kernel_rfl) (by kernel_rfl) (fun _ _ _ h => h) (by rfl) ?_ HG6.out ?_
    rotate_left
    · (intro W hW; obtain ⟨z0, z1, z2, z3⟩ := box2T (HB3.out.grew hW); go_simp; with_reducible rfl)
    refine held_norm (a' := ?_) ?_ ?_
    rotate_left
    · (go_simp; with_reducible rfl)
    refine held_take 7 (v := ?_) rfl (by kernel_rfl) (by kernel_rfl) (by kernel_rfl) (fun _ _ _ h => h) (by rfl) ?_ HG6.out ?_
    rotate_left
    · (intro W hW; go_simp; with_reducible rfl)
    refine held_take 8 (v := ?_) rfl (by kernel_rfl) (by kernel_rfl) (by kernel_rfl) (fun _ _ _ h => h) (by rfl) ?_ HG6.out ?_
    rotate_left
    · (intro W hW; go_simp; with_reducible rfl)
    refine held_take 9 (v := ?_) rfl (by kernel_rfl) (by kernel_rfl) (by kernel_rfl) (fun _ _ _ h => h) (by rfl) ?_ HG6.out ?_
    rotate_left
    · (intro W hW; go_simp; with_reducible rfl)
    refine held_norm (a' := ?_) ?_ ?_
    rotate_left
    · (go_simp; with_reducible rfl)
    refine held_skip 10 rfl (by kernel_rfl) (by kernel_rfl) (by kernel_rfl) (fun _ _ _ h => h) (by rfl) HG6.out ?_
    refine held_norm (a' := ?_) ?_ ?_
    rotate_left
    · (go_simp; with_reducible rfl)
    refine held_skip 11 rfl (by kernel_rfl) (by kernel_rfl) (by kernel_rfl) (fun _ _ _ h => h) (by rfl) HG6.out ?_
    refine held_norm (a' := ?_) ?_ ?_
    rotate_left
    · (go_simp; with_reducible rfl)
    refine held_skip 12 rfl (by kernel_rfl) (by kernel_rfl) (by kernel_rfl) (fun _ _ _ h => h) (by rfl) HG6.out ?_
    refine held_norm (a' := ?_) ?_ ?_
    rotate_left
    · (go_simp; with_reducible rfl)
    refine held_skip 13 rfl (by kernel_rfl) (by kernel_rfl) (by kernel_rfl) (fun _ _ _ h => h) (by rfl) HG6.out ?_
    refine held_norm (a' := ?_) ?_ ?_
    rotate_left
    · (go_simp; with_reducible rfl)
    refine held_skip 14 rfl (by kernel_rfl) (by kernel_rfl) (by kernel_rfl) (fun _ _ _ h => h) (by rfl) HG6.out ?_
    refine held_norm (a' := ?_) ?_ ?_
    rotate_left
    · (go_simp; with_reducible rfl)
    refine held_take 15 (v := ?_) rfl (by kernel_rfl) (by kernel_rfl) (by kernel_rfl) (fun _ _ _ h => h) (by rfl) ?_ HG6.out ?_
    rotate_left
    · (intro W hW; go_simp; with_reducible rfl)
    refine held_take 16 (v := ?_) rfl (by kernel_rfl) (by kernel_rfl) (by kernel_rfl) (fun _ _ _ h => h) (by rfl) ?_ HG6.out ?_
    rotate_left
    · (intro W hW; go_simp; with_reducible rfl)
    refine held_take 17 (v := ?_) rfl (by kernel_rfl) (by kernel_rfl) (by kernel_rfl) (fun _ _ _ h => h) (by rfl) ?_ HG6.out ?_
    rotate_left
    · (intro W hW; go_simp; with_reducible rfl)
    refine held_norm (a' := ?_) ?_ ?_
    rotate_left
    · (go_simp; with_reducible rfl)
    refine held_call 18 (by kernel_rfl) rfl (by rfl) (fun K hK => ?_)
    go_simp
    go_wp2_with (go_at_call 7; (with_reducible refine (live27_any _).grows.mono ?_); rintro e w8 ⟨rfl, hg8⟩; have HG8 := Lib.hid (HG6.out.trans hg8); clear hg8)
    refine hK.out _ _ HG8.out ?_
    clear hK K
    refine held_take 19 (v := ?_) rfl (by kernel_rfl) (by kernel_rfl) (by kernel_rfl) (fun _ _ _ h => h) (by rfl) ?_ HG8.out ?_
    rotate_left
    · (intro W hW; go_simp; with_reducible rfl)
    refine held_take 20 (v := ?_) rfl (by kernel_rfl) (by kernel_rfl) (by kernel_rfl) (fun _ _ _ h => h) (by rfl) ?_ HG8.out ?_
    rotate_left
    · (intro W hW; go_simp; with_reducible rfl)
    refine held_norm (a' := ?_) ?_ ?_
    rotate_left
    · (go_simp; with_reducible rfl)
    refine held_done (by kernel_rfl) ?_
    go_wp2
    go_ret
    exact ⟨rfl, HG3.out.trans HG8.out⟩
end Go.Proofs.Ytdohfbpjmnhhmaa

namespace Go.Proofs.Ytdohfbpjmnhhmaa.histOfs
open Go.RowKit Go.ChangeShapes Go.WideShapes Go.ChangeAt Go.Joins

theorem reads : ∀ t ∈ Try.f3.params.toList, Try.prog.readableRec t = true ∧ t < Try.prog.types.size := by
  rw [Try.params3]
  intro t ht
  simp only [List.mem_cons, List.not_mem_nil, or_false] at ht
  subst ht
  all_goals exact ⟨by kernel_rfl, of_decide_eq_true (by kernel_rfl)⟩

set_option maxRecDepth 100000 in
theorem lifted (os : Os) (started : os.Started) (H : Type) (enc : TypeId × Value → H) :
    ReturnsInHanded {} Try.checked os 3 .any (Rows.histOfsSpec.pre6 enc Try.prog Try.f3 Rows.histOfsRow.domain false) (Rows.histOfsSpec.post enc Try.prog Try.f3 false true false false) := by
  refine returnsInHanded_of_change_sized (C := Try.checked) own started (by kernel_rfl) Try.func3
    (ChangeSpec.witness6 (enc := enc) (C := Try.checked) false ⟨#[], #[.agg #[.string ⟨#[]⟩, .slice none 0 0, .slice none 0 0]], []⟩ 8 (by kernel_rfl) (by kernel_rfl) (by kernel_rfl) (by kernel_rfl)) ?_
  intro W base args ds gs before hval0 hW hcnd hsz0 _
  have hval : ∀ (j : Nat) t v, Try.f3.params[j]? = some t → args[j]? = some v → Value.okWide Try.prog W .any base t v := hval0
  have hW' := hW
  obtain ⟨p, q, hA0, hV, hpq, hfz, hnd⟩ := hW
  have hA : DataW.TrodAll enc Try.prog W 0 (fun _ => true) true Try.f3.params.toList args.toList ds p := hA0
  rw [Try.params3] at hA hval
  obtain ⟨v0, vs0, d0, ds0, p0, q0, hargs, rfl, rfl, h0, r0⟩ := trodAll_cons hA
  obtain ⟨rfl, rfl, rfl⟩ := trodAll_nil r0
  obtain rfl : args = #[v0] := by cases args; simp_all
  obtain ⟨rfl, rfl⟩ := trodVars_none hV
  have hz : (DataW.weightsEach Try.prog [25] [d0]).all (· ≤ reachBytes) = true := hsz0
  simp only [DataW.weightsEach, List.append_nil] at hz
  have zz0 := hz
  obtain ⟨tcs, t, rfl, zt, tt, kt⟩ := rdw_arg Try.underlying25 rdw_tb (hval 0 25 v0 rfl rfl) h0 zz0
  obtain ⟨tA, tk, tB, tj, et, tl, tm, rt, st⟩ := tt
  obtain rfl : tcs = #[.string t.name, .slice tA t.cols.length tk, .slice tB t.rows.length tj] := Array.ext' et
  refine (histOfs_walk t kt tA tk tl tB tj tm W rt st).mono fun e W' ⟨he, hg⟩ => ?_
  subst he
  exact ⟨_, rfl, law_post hW' rfl rfl Try.underlying4 rfl rfl rfl laid_out reads (Grew.below hg)⟩

theorem over : Rows.histOfsRow.holds Try.pinned (OpenSpec.ofChange Rows.histOfsSpec) :=
  OpenClaim.holds_of_wide 3 Try.f3 rfl rfl rfl rfl rfl rfl rfl ⟨rfl, rfl, rfl, rfl, rfl⟩ rfl rfl rfl rfl rfl (by kernel_rfl) Try.func3 (by kernel_rfl)
    (of_decide_eq_true (by kernel_rfl)) (by unfold Func.isWrapper; first | (rw [if_pos (by decide +kernel)]; kernel_rfl) | (rw [if_neg (by decide +kernel)]; exact ⟨rfl, rfl⟩))
    (fun os started H enc _ => lifted os started H enc)

theorem proved : Rows.HistOfsSaid := over

end Go.Proofs.Ytdohfbpjmnhhmaa.histOfs
